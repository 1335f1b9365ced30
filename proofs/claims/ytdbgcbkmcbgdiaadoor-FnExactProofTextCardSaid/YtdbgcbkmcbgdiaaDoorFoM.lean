/-
  Several texts in one: Cmq, Cmr, Cms, Cmt, Srt, Fst, Fss, For.
-/
import Derived.Test.YtdbgcbkmcbgdiaaDoorRows
import Derived.Test.YtdbgcbkmcbgdiaaDoorGrM
import Derived.Test.YtdbgcbkmcbgdiaaDoorRev
import Derived.Test.YtdbgcbkmcbgdiaaDoorCs
import Derived.OwnWalkIn
import Derived.Sort.Grow
namespace Go.Proofs.YtdbgcbkmcbgdiaaDoor.mem
open Go.RowKit
set_option linter.unusedVariables false
attribute [local go_sem] Oper.semAt_some

/-- the marks that searches leave among the deferred calls -/
def marks (bs : List Nat) : List Deferred := bs.map fun b => { target := .collected b, args := #[] }
theorem leaves_marks {F : Fence} {n : Nat} {P : Program} {fn : Func} {tmps : Array Value} {R : Ending → World → Prop} {u : FrameMode} (hu : u ≠ .run) : ∀ (bs : List Nat) (w : World),
    (∀ b, b ∈ bs → w.heap[b]? = some (.deferred (some []))) → bs.Pairwise (· ≠ ·) → (∀ w', Upd (fun b => b ∈ bs) w w' → LeavesInM F n P fn tmps R [] u w') → LeavesInM F n P fn tmps R (marks bs) u w
  | [], w, _, _, h => h w (Upd.refl _ _)
  | b :: bs, w, hb, hd, h => by
    refine ⟨hu, .inl ⟨b, _, rfl, run_takeDeferred (hb b (by simp)), ?_⟩⟩
    rw [List.pairwise_cons] at hd
    refine leaves_marks hu bs _ (fun c hc => ?_) hd.2 (fun w' hw' => h w' ?_)
    · exact (World.putObj_heap_other (fun e => hd.1 c hc e.symm)).trans (hb c (by simp [hc]))
    · exact (Upd.putObj _ w b (.deferred none) (by simp)).trans (hw'.mono fun k _ hk => by simp [hk])

/-- while the visits from k come: the table, the boxes -/
def CmpI (n : Nat) (P : Nat → Pip) (m k g be bn : Nat) (v : Value) (v0 v1 : Value) (bs : List Nat) (w : World) (pre : List Vs) (Y : Nat → Prop) (A : World) : Prop :=
  Y = (fun b => b = g) ∧ Ob A g n (tabC (cmpV n P m k pre)) ∧ Ob A be 1 (fun _ => v) ∧ Ob A bn 1 (fun _ => .int .i64 (k : Nat)) ∧ Ob A w.heap.size 2 (bx v0 v1) ∧ (∀ b, b ∈ bs → A.heap[b]? = some (.deferred (some []))) ∧ Below w.heap.size w A
theorem CmpI.upd {n : Nat} {P : Nat → Pip} {m k g be bn : Nat} {v v0 v1 : Value} {bs : List Nat} {w : World} {pre : List Vs} {Y X : Nat → Prop} {A B : World} (h : CmpI n P m k g be bn v v0 v1 bs w pre Y A) (u : Upd X A B) (hg : ¬ X g) (hb : ¬ X be) (hn : ¬ X bn) (h0 : ¬ X w.heap.size) (hbs : ∀ b, b ∈ bs → ¬ X b) (hX : ∀ k, X k → w.heap.size ≤ k) : CmpI n P m k g be bn v v0 v1 bs w pre Y B := by
  obtain ⟨h1, h2, h3, h4, h5, h6, h7⟩ := h
  refine ⟨h1, h2.keep (u.block _ h2.lt hg), h3.keep (u.block _ h3.lt hb), h4.keep (u.block _ h4.lt hn), h5.keep (u.block _ h5.lt h0), fun b hb2 => ?_, h7.trans (u.below h7.size (fun k _ hk => hX k hk))⟩
  have := h6 b hb2
  exact (u.block b (Array.getElem?_eq_some_iff.1 this).1 (hbs b hb2)).trans this
theorem cmp_step {A : World} {g n : Nat} {P : Nat → Pip} {m k : Nat} {pre : List Vs} {u : Vs} {Z : Nat} (h : Ob A g n (tabC (cmpV n P m k pre))) (hZ : u.nd = ((Z : Nat) : Int)) (hn : Z < n) :
    Ob (A.setCell ⟨g, Z, none⟩ (.int .i64 (k : Nat))) g n (tabC (cmpV n P m k (pre ++ [u]))) := by
  refine (h.set Z _ hn).congr fun j hj => ?_
  unfold updV tabC
  rw [cmpV_app, hZ]
  by_cases e : j = Z
  · subst e; simp
  · rw [if_neg e, if_neg (by omega)]

end Go.Proofs.YtdbgcbkmcbgdiaaDoor.mem

namespace Go.Proofs.YtdbgcbkmcbgdiaaDoor.mem
open Go.RowKit
set_option linter.unusedVariables false

theorem rts_eq (n : Nat) (P : Nat → Pip) (m i : Nat) : (((i : Nat) : Int) == cmp n P m n i) = rts n P m i := by
  unfold rts
  rw [Bool.eq_iff_iff]
  simp only [beq_iff_eq, decide_eq_true_eq]
  exact eq_comm
theorem cnt_le (n : Nat) (P : Nat → Pip) (m : Nat) : cnt n P m ≤ n := fl_le _ _

end Go.Proofs.YtdbgcbkmcbgdiaaDoor.mem

namespace Go.Proofs.YtdbgcbkmcbgdiaaDoor.mem
open Go.RowKit
set_option linter.unusedVariables false

theorem cmpV_take {n : Nat} {P : Nat → Pip} {m k : Nat} {fs : List Vs} {j : Nat} {v : Vs} (h : fs[j]? = some v) : cmpV n P m k (fs.take (j + 1)) = fun y => if y = v.nd then (k : Int) else cmpV n P m k (fs.take j) y := by
  rw [take_one h]
  funext y
  exact cmpV_app n P m k _ v y

end Go.Proofs.YtdbgcbkmcbgdiaaDoor.mem

namespace Go.Proofs.YtdbgcbkmcbgdiaaDoor.mem
open Go.RowKit
set_option linter.unusedVariables false

def cmC (b : Bool) : Int := if b = true then 0 else 1
noncomputable def cmN (n : Nat) (N : Nat → Nod) (m : Nat) (P : Nat → Pip) : Nat := if cmC (netB n N m P) = 0 then n else 0
noncomputable def conB (n : Nat) (N : Nat → Nod) (m : Nat) (P : Nat → Pip) : Bool := netB n N m P && decide (cnt n P m = 1)
noncomputable def treeB (n : Nat) (N : Nat → Nod) (m : Nat) (P : Nat → Pip) : Bool := conB n N m P && decide (m + 1 = n)

theorem li_tab1 {w w' : World} {cnt g n : Nat} {f : Int → Int} {c : Int} {e : Ending} (h0 : n = cnt) (hc : 0 = c) (he : e = .returned (.tuple #[.slice (some ⟨g, 0, none⟩) n n, .int .i64 0])) (h : Ob w' g n (tabC f)) (hn : n ≤ 24) (hg : w.heap.size ≤ g) (hb : Below w.heap.size w w') : LIPost w cnt (fun k => f ((k : Nat) : Int)) c e w' := li_tab h0 hc he h hn hg hb

theorem cmN_le (n : Nat) (N : Nat → Nod) (m : Nat) (P : Nat → Pip) (hn : n ≤ 2000000) : cmN n N m P ≤ 2000000 := by
  unfold cmN
  split <;> omega
end Go.Proofs.YtdbgcbkmcbgdiaaDoor.mem

namespace Go.Proofs.YtdbgcbkmcbgdiaaDoor.mem
open Go.RowKit
set_option linter.unusedVariables false
theorem grow_below (w : World) (os : Array Obj) : Below w.heap.size w (Go.Sort.grow w os) := by
  refine ⟨rfl, rfl, rfl, ?_, fun k hk => ?_⟩
  · show w.heap.size ≤ (w.heap ++ os).size
    simp
  · show (w.heap ++ os)[k]? = _
    rw [Array.getElem?_append_left hk]
end Go.Proofs.YtdbgcbkmcbgdiaaDoor.mem

namespace Go.Proofs.YtdbgcbkmcbgdiaaDoor.mem
open Go.RowKit
set_option linter.unusedVariables false
attribute [local go_sem] Oper.semAt_some

theorem wpListIn_app {F : Fence} {n : Nat} {ops : Array Oper} {rest : List Oper} {o : Oper} {a : Act} {Q : Exit → Act → World → Prop} {w w' : World} {v v' xv : Value} (hr : Sem.run Tryd.prog (Builtin.append_ #[26, 26] 26 #[v, xv]) w = .ok v' w')
    (hgd : o.guard = none) (s x : Operand) (ho : o.op = .call { callee := .builtin .append, args := #[s, x], argTypes := #[26, 26] }) (hty : o.type = 26) (hs : a.eval s = v) (hx : a.eval x = xv)
    (h : wpListIn F n Tryd.prog ops Q rest (a.put o.dst v') w') : wpListIn F n Tryd.prog ops Q (o :: rest) a w := by
  refine wpListIn_plain hgd fun K hK => ?_
  unfold Oper.wpIn
  refine ⟨?_, ?_⟩
  · simp [Oper.about, ho, resolve, Target.leads, Sem.run_pure]
  · rw [Oper.semAt_plain F _ _ (by rw [ho]; intro c hc'; cases hc')]
    simp [execOp, ho, hty, resolve, invoke, builtin, hs, hx, hr, Result.andThen]
    exact hK _ _ h
/-- a list's elements, as a function -/
def lD (l : List Int) (k : Nat) : Int := (l[k]?).getD 0
theorem lD_app (l : List Int) (x : Int) (k : Nat) : upd (lD l) l.length x k = if k < l.length + 1 then lD (l ++ [x]) k else upd (lD l) l.length x k := by
  split
  · next h =>
    unfold upd lD
    by_cases e : k = l.length
    · subst e; simp
    · rw [if_neg e, List.getElem?_append_left (by omega)]
  · rfl
theorem dl_lD (l : List Int) : dl l.length (lD l) = l := by
  apply List.ext_getElem?
  intro k
  by_cases h : k < l.length
  · rw [dl_get _ h]
    unfold lD
    rw [List.getElem?_eq_getElem h]
    rfl
  · rw [List.getElem?_eq_none (by rw [dl_len]; omega), List.getElem?_eq_none (by omega)]
theorem Own.notMark {w : World} {v : Value} {n g b : Nat} {d : Nat → Int} {x : Option (List Deferred)} (h : Own w v n d g) (hb : w.heap[b]? = some (.deferred x)) : b ≠ g := by
  intro e
  obtain ⟨_, _, _, h1, _⟩ := h.ex
  rw [e, h1] at hb
  cases hb
theorem Ob.notMark {w : World} {n g b : Nat} {d : Nat → Value} {x : Option (List Deferred)} (h : Ob w g n d) (h0 : 0 < n) (hb : w.heap[b]? = some (.deferred x)) : b ≠ g := by
  intro e
  have := h.cell 0 h0
  simp only [World.cell?, ← e, hb] at this
  cases this
theorem ens_le (fs : List Vs) : (ens fs).length ≤ fs.length := by
  unfold ens
  rw [List.length_map]
  exact List.length_filter_le _ _
theorem fcol_le {n : Nat} {N : Nat → Nod} {P : Nat → Pip} {m : Nat} (hN : netB n N m P = true) : ∀ (rs : List Nat), (∀ r ∈ rs, r < n) → (fcol n P m rs).length ≤ rs.length * n
  | [], _ => Nat.zero_le _
  | r :: rs, h => by
    have h1 := ens_le (vis n P m ((r : Nat) : Int))
    have h2 := (vis_ok (P := P) (m := m) (x := ((r : Nat) : Int)) hN (by have := h r (by simp); omega)).len
    have h3 := fcol_le hN rs (fun q hq => h q (by simp [hq]))
    unfold fcol at h3 ⊢
    rw [List.flatMap_cons, List.length_append, List.length_cons, Nat.add_mul]
    omega
theorem fcol_snoc (n : Nat) (P : Nat → Pip) (m : Nat) (rs : List Nat) (r : Nat) : fcol n P m (rs ++ [r]) = fcol n P m rs ++ ens (vis n P m ((r : Nat) : Int)) := by
  unfold fcol
  simp

noncomputable def foN (n : Nat) (N : Nat → Nod) (m : Nat) (P : Nat → Pip) : Nat := if cmC (netB n N m P) = 0 then (forest n P m).length else 0
end Go.Proofs.YtdbgcbkmcbgdiaaDoor.mem

namespace Go.Proofs.YtdbgcbkmcbgdiaaDoor.mem
open Go.RowKit
set_option linter.unusedVariables false

theorem vval_mem {f : Vs → Int} {fs : List Vs} {y : Int} (h : vval f fs y ≠ -1) : ∃ v ∈ fs, v.nd = y ∧ vval f fs y = f v := by
  unfold vval at h ⊢
  cases hq : fs.find? (fun v => v.nd == y) with
  | none => rw [hq] at h; exact absurd rfl h
  | some v =>
    refine ⟨v, List.mem_of_find?_eq_some hq, ?_, rfl⟩
    have := List.find?_some hq
    simpa using this
theorem Vok.en_rng {n : Nat} {P : Nat → Pip} {m : Nat} {x : Int} {fs : List Vs} (h : Vok n P m x fs) (y : Int) : vval (·.en) fs y = -1 ∨ ∃ c : Nat, c < m ∧ vval (·.en) fs y = ((c : Nat) : Int) := by
  by_cases e : vval (·.en) fs y = -1
  · exact .inl e
  · right
    obtain ⟨v, hv, hnd, hvv⟩ := vval_mem e
    obtain ⟨i, hi, rfl⟩ := List.mem_iff_getElem.1 hv
    have hg : fs[i]? = some fs[i] := List.getElem?_eq_getElem hi
    rcases Nat.eq_zero_or_pos i with rfl | h0
    · have := h.fst
      rw [hg] at this
      injection this with this
      rw [hvv, this] at e
      exact absurd rfl e
    · obtain ⟨j, u, c, _, _, hc, he, _⟩ := h.par i _ h0 hg
      exact ⟨c, hc, hvv.trans he⟩
/-- pipe c is the entry of one of the first k nodes -/
def inE (fs : List Vs) (k : Nat) (c : Nat) : Bool := (List.range k).any (fun j => vval (·.en) fs ((j : Nat) : Int) == ((c : Nat) : Int))
theorem inE_succ (fs : List Vs) (k c : Nat) : inE fs (k + 1) c = (inE fs k c || (vval (·.en) fs ((k : Nat) : Int) == ((c : Nat) : Int))) := by
  unfold inE
  rw [List.range_succ, List.any_append]
  simp
theorem Vok.inE_all {n : Nat} {P : Nat → Pip} {m : Nat} {x : Int} {fs : List Vs} (h : Vok n P m x fs) (c : Nat) : inE fs n c = (ens fs).contains ((c : Nat) : Int) := by
  rw [Bool.eq_iff_iff]
  unfold inE
  simp only [List.any_eq_true, List.mem_range, beq_iff_eq, List.contains_iff_mem]
  constructor
  · rintro ⟨j, hj, e⟩
    obtain ⟨v, hv, hnd, hvv⟩ := vval_mem (f := (·.en)) (fs := fs) (y := ((j : Nat) : Int)) (by omega)
    exact ens_mem.2 ⟨v, hv, by rw [← hvv, e], by omega⟩
  · intro hm
    obtain ⟨v, hv, e, hne⟩ := ens_mem.1 hm
    obtain ⟨i, hi, rfl⟩ := List.mem_iff_getElem.1 hv
    obtain ⟨h1, h2⟩ := h.rng _ hv
    obtain ⟨Z, hZ⟩ := Int.eq_ofNat_of_zero_le h1
    refine ⟨Z, by omega, ?_⟩
    rw [← hZ, h.val (·.en) (List.getElem?_eq_getElem hi), e]
theorem inF_snoc (n : Nat) (P : Nat → Pip) (m : Nat) (rs : List Nat) (r c : Nat) : inF n P m (rs ++ [r]) c = (inF n P m rs c || (ens (vis n P m ((r : Nat) : Int))).contains ((c : Nat) : Int)) := by
  unfold inF
  rw [fcol_snoc, Bool.eq_iff_iff]
  simp only [List.contains_iff_mem, List.mem_append, Bool.or_eq_true]
def flgC (p : Nat → Bool) : Nat → Value := fun a => .bool (p a)
theorem flgC_set {w : World} {b n : Nat} {p q : Nat → Bool} (h : Ob w b n (flgC p)) (k : Nat) (hk : k < n) (e : ∀ a, q a = (p a || (k == a))) : Ob (w.setCell ⟨b, k, none⟩ (.bool true)) b n (flgC q) := by
  refine (h.set k (.bool true) hk).congr fun j hj => ?_
  unfold updV flgC
  rw [e j]
  by_cases hjk : j = k
  · subst hjk; simp
  · rw [if_neg hjk]
    have : (k == j) = false := by rw [beq_eq_false_iff_ne]; omega
    rw [this, Bool.or_false]
theorem forest_len (n : Nat) (P : Nat → Pip) (m : Nat) : (forest n P m).length = (fl (inF n P m (fl (rts n P m) n)) m).length := by unfold forest; rw [List.length_map]
theorem forest_lD (n : Nat) (P : Nat → Pip) (m k : Nat) (hk : k < (fl (inF n P m (fl (rts n P m) n)) m).length) : fd (inF n P m (fl (rts n P m) n)) m k = lD (forest n P m) k := by
  unfold fd lD forest
  rw [List.getElem?_map, List.getElem?_eq_getElem hk]
  rfl
theorem forest_le (n : Nat) (P : Nat → Pip) (m : Nat) : (forest n P m).length ≤ m := by rw [forest_len]; exact fl_le _ _

theorem foN_le (n : Nat) (N : Nat → Nod) (m : Nat) (P : Nat → Pip) (hm : m ≤ 2000000) : foN n N m P ≤ 2000000 := by
  have := forest_le n P m
  unfold foN
  split <;> omega
end Go.Proofs.YtdbgcbkmcbgdiaaDoor.mem

namespace Go.Proofs.YtdbgcbkmcbgdiaaDoor.mem
open Go.RowKit
set_option linter.unusedVariables false

/-- a component once given stays given -/
theorem cmp_stay {n : Nat} {P : Nat → Pip} {m k : Nat} {y : Int} (h : cmp n P m k y ≠ -1) : ∀ j, cmp n P m (k + j) y ≠ -1
  | 0 => h
  | j + 1 => by
    have ih := cmp_stay h j
    rw [← Nat.add_assoc, cmp_succ]
    split
    · omega
    · exact ih
theorem vis_sym {n : Nat} {N : Nat → Nod} {P : Nat → Pip} {m : Nat} (hN : netB n N m P = true) {a b : Nat} (ha : a < n) (hb : b < n) (h : vhas (vis n P m (a : Nat)) (b : Nat) = true) : vhas (vis n P m (b : Nat)) (a : Nat) = true := by
  obtain ⟨i, v, hv, hvn⟩ := vhas_get h
  exact vis_meet (x := ((b : Nat) : Int)) (y := ((a : Nat) : Int)) hN (by omega) (by omega) i v hv (by rw [hvn]; exact vis_self n P m _)
/-- a node that no smaller one leads to is a root -/
theorem open_rts {n : Nat} {N : Nat → Nod} {P : Nat → Pip} {m : Nat} (hN : netB n N m P = true) {k : Nat} (hk : k < n) (h : cmp n P m k k = -1) : rts n P m k = true := by
  have key : ∀ j, k + 1 + j ≤ n → cmp n P m (k + 1 + j) k = (k : Nat) := by
    intro j
    induction j with
    | zero => intro _; show cmp n P m (k + 1) k = _; rw [cmp_take h, if_pos (vis_self n P m _)]
    | succ j ih =>
      intro hj
      rw [← Nat.add_assoc, cmp_succ]
      split
      · next hc =>
        exfalso
        have h1 := vis_sym hN (by omega) hk hc.2
        have h2 : cmp n P m (k + 1) ((k + 1 + j : Nat) : Int) ≠ -1 := by rw [cmp_take h, if_pos h1]; omega
        exact cmp_stay h2 j hc.1
      · exact ih (by omega)
  unfold rts
  rw [decide_eq_true_eq]
  have := key (n - (k + 1)) (by omega)
  rw [show k + 1 + (n - (k + 1)) = n by omega] at this
  exact this
/-- every node lies in the search of a root -/
theorem cmp_some {n : Nat} {N : Nat → Nod} {P : Nat → Pip} {m : Nat} (hN : netB n N m P = true) : ∀ (t : Nat), t ≤ n → ∀ y, cmp n P m t y ≠ -1 → ∃ r, r < t ∧ rts n P m r = true ∧ vhas (vis n P m (r : Nat)) y = true
  | 0, _, y, h => absurd rfl h
  | t + 1, ht, y, h => by
    rw [cmp_succ] at h
    split at h
    · next hc => exact ⟨t, by omega, open_rts hN (by omega) hc.1, hc.2⟩
    · obtain ⟨r, h1, h2⟩ := cmp_some hN t (by omega) y h
      exact ⟨r, by omega, h2⟩
theorem root_of {n : Nat} {N : Nat → Nod} {P : Nat → Pip} {m : Nat} (hN : netB n N m P = true) {k : Nat} (hk : k < n) : ∃ r, r < n ∧ rts n P m r = true ∧ vhas (vis n P m (r : Nat)) (k : Nat) = true := by
  refine cmp_some hN n (Nat.le_refl _) _ ?_
  have h1 : cmp n P m (k + 1) ((k : Nat) : Int) ≠ -1 := by
    by_cases e : cmp n P m k k = -1
    · rw [cmp_take e, if_pos (vis_self n P m _)]
      omega
    · rw [cmp_skip e]
      exact e
  have := cmp_stay h1 (n - (k + 1))
  rw [show k + 1 + (n - (k + 1)) = n by omega] at this
  exact this
/-- all nodes, root by root -/
def allV (n : Nat) (P : Nat → Pip) (m : Nat) (rs : List Nat) : List Int := rs.flatMap (fun r => (vis n P m (r : Nat)).map (·.nd))
theorem allV_nodup {n : Nat} {N : Nat → Nod} {P : Nat → Pip} {m : Nat} (hN : netB n N m P = true) : (allV n P m (fl (rts n P m) n)).Pairwise (· ≠ ·) := by
  unfold allV
  rw [List.pairwise_flatMap]
  refine ⟨fun r hr => ?_, ?_⟩
  · have := (fl_lt hr).1
    exact List.pairwise_map.2 (vis_ok (P := P) (m := m) (x := ((r : Nat) : Int)) hN (by omega)).dis
  · refine List.Pairwise.imp_of_mem (R := (· < ·)) ?_ (fl_sorted _ _)
    intro r s hr hs hrs a ha b hb e
    subst e
    have h1 := fl_lt hr
    have h2 := fl_lt hs
    obtain ⟨v, hv, rfl⟩ := List.mem_map.1 ha
    obtain ⟨u, hu, hun⟩ := List.mem_map.1 hb
    obtain ⟨i, hi, rfl⟩ := List.mem_iff_getElem.1 hu
    have := vis_meet (x := ((r : Nat) : Int)) (y := ((s : Nat) : Int)) hN (by omega) (by omega) i _ (List.getElem?_eq_getElem hi) (by rw [hun]; exact vhas_iff.2 ⟨v, hv, rfl⟩)
    rw [rts_apart hN h2.1 hrs h1.2 h2.2] at this
    cases this
theorem allV_len {n : Nat} {N : Nat → Nod} {P : Nat → Pip} {m : Nat} (hN : netB n N m P = true) : (allV n P m (fl (rts n P m) n)).length = n := by
  have hr : (allV n P m (fl (rts n P m) n)).mergeSort (fun x y => decide (x ≤ y)) = (List.range n).map (fun k => ((k : Nat) : Int)) := by
    refine rising_eq _ _ (rising_of ?_ ?_) ?_ fun x => ?_
    · have := List.pairwise_mergeSort (le := fun (x y : Int) => decide (x ≤ y)) (fun a b c => by simp only [decide_eq_true_eq]; omega) (fun a b => by simp only [Bool.or_eq_true, decide_eq_true_eq]; omega) (allV n P m (fl (rts n P m) n))
      exact this.imp (fun h => by simpa using h)
    · exact (List.mergeSort_perm _ _).symm.pairwise (allV_nodup hN) (fun h e => h e.symm)
    · rw [List.pairwise_map]
      exact List.pairwise_lt_range.imp (fun h => by omega)
    · rw [(List.mergeSort_perm _ _).mem_iff]
      constructor
      · intro hx
        unfold allV at hx
        obtain ⟨r, hr, hx⟩ := List.mem_flatMap.1 hx
        obtain ⟨v, hv, rfl⟩ := List.mem_map.1 hx
        have h1 := (fl_lt hr).1
        obtain ⟨a, b⟩ := (vis_ok (P := P) (m := m) (x := ((r : Nat) : Int)) hN (by omega)).rng v hv
        obtain ⟨Z, hZ⟩ := Int.eq_ofNat_of_zero_le a
        exact List.mem_map.2 ⟨Z, List.mem_range.2 (by omega), hZ.symm⟩
      · intro hx
        obtain ⟨k, hk, rfl⟩ := List.mem_map.1 hx
        obtain ⟨r, h1, h2, h3⟩ := root_of hN (List.mem_range.1 hk)
        obtain ⟨v, hv, hvn⟩ := vhas_iff.1 h3
        unfold allV
        exact List.mem_flatMap.2 ⟨r, fl_mem h1 h2, List.mem_map.2 ⟨v, hv, hvn⟩⟩
  have := congrArg List.length hr
  simpa using this
theorem Vok.ens_len {n : Nat} {P : Nat → Pip} {m : Nat} {x : Int} {fs : List Vs} (h : Vok n P m x fs) : (ens fs).length + 1 = fs.length := by
  have hf := h.fst
  cases fs with
  | nil => simp at hf
  | cons a t =>
    simp only [List.getElem?_cons_zero, Option.some.injEq] at hf
    have ht : t.filter (fun v => v.en != -1) = t := by
      rw [List.filter_eq_self]
      intro v hv
      obtain ⟨i, hi, rfl⟩ := List.mem_iff_getElem.1 hv
      obtain ⟨j, u, k, _, _, _, he, _⟩ := h.par (i + 1) t[i] (by omega) (by simp)
      rw [bne_iff_ne, he]
      omega
    unfold ens
    rw [List.filter_cons, if_neg (by rw [hf]; simp), ht, List.length_map, List.length_cons]
theorem fcol_len {n : Nat} {N : Nat → Nod} {P : Nat → Pip} {m : Nat} (hN : netB n N m P = true) : ∀ (rs : List Nat), (∀ r ∈ rs, r < n) → (fcol n P m rs).length + rs.length = (allV n P m rs).length
  | [], _ => rfl
  | r :: rs, h => by
    have h1 := fcol_len hN rs (fun q hq => h q (by simp [hq]))
    have h2 := (vis_ok (P := P) (m := m) (x := ((r : Nat) : Int)) hN (by have := h r (by simp); omega)).ens_len
    unfold fcol allV at h1 ⊢
    rw [List.flatMap_cons, List.flatMap_cons, List.length_append, List.length_append, List.length_cons, List.length_map]
    omega
/-- as many pipes as there are nodes minus components -/
theorem forest_cnt {n : Nat} {N : Nat → Nod} {P : Nat → Pip} {m : Nat} (hN : netB n N m P = true) : (forest n P m).length + cnt n P m = n := by
  have h1 := fcol_len (P := P) (m := m) hN (fl (rts n P m) n) (fun r hr => (fl_lt hr).1)
  rw [allV_len hN] at h1
  have h2 := forest_eq (P := P) (m := m) hN (List.mergeSort_perm _ (fun x y => decide (x ≤ y))) (by
    have := List.pairwise_mergeSort (le := fun (x y : Int) => decide (x ≤ y)) (fun a b c => by simp only [decide_eq_true_eq]; omega) (fun a b => by simp only [Bool.or_eq_true, decide_eq_true_eq]; omega) (fcol n P m (fl (rts n P m) n))
    exact this.imp (fun h => by simpa using h))
  have h3 := congrArg List.length h2
  rw [List.length_mergeSort] at h3
  unfold cnt
  omega

/-- the pipes of the forest -/
def frP (n : Nat) (P : Nat → Pip) (m : Nat) (i : Nat) : Pip := P (lD (forest n P m) i).toNat
theorem frP_at {n : Nat} {P : Nat → Pip} {m i : Nat} (hi : i < (forest n P m).length) : ∃ a : Nat, a < m ∧ lD (forest n P m) i = (a : Int) ∧ frP n P m i = P a := by
  have h1 := forest_len n P m
  have h2 := forest_lD n P m i (by omega)
  obtain ⟨h3, h4⟩ := fl_getS (p := inF n P m (fl (rts n P m) n)) (m := m) (i := i) (by omega)
  refine ⟨_, h3, h2.symm, ?_⟩
  unfold frP
  rw [← h2]
  unfold fd
  rw [Int.toNat_natCast]
theorem frP_has {n : Nat} {P : Nat → Pip} {m a : Nat} (ha : a < m) (h : ((a : Nat) : Int) ∈ fcol n P m (fl (rts n P m) n)) : ∃ i, i < (forest n P m).length ∧ frP n P m i = P a := by
  have hm : ((a : Nat) : Int) ∈ forest n P m := by
    unfold forest
    exact List.mem_map.2 ⟨a, fl_mem ha (by unfold inF; simpa using h), rfl⟩
  obtain ⟨i, hi, e⟩ := List.mem_iff_getElem.1 hm
  refine ⟨i, hi, ?_⟩
  unfold frP lD
  rw [List.getElem?_eq_getElem hi, e]
  rfl
theorem net_forest {n : Nat} {N : Nat → Nod} {P : Nat → Pip} {m : Nat} (h : netB n N m P = true) : netB n N (forest n P m).length (frP n P m) = true := by
  have h2 := h
  have hl := forest_le n P m
  unfold netB at h ⊢
  simp only [Bool.and_eq_true] at h ⊢
  refine ⟨⟨szB_iff.2 ?_, h.1.2⟩, pipesB_iff.2 fun j hj => ?_⟩
  · have := szB_iff.1 h.1.1
    exact ⟨this.1, this.2.1, by omega⟩
  · obtain ⟨a, ha, _, e⟩ := frP_at hj
    rw [e]
    exact net_pip h2 ha
theorem vis_less {n : Nat} {N : Nat → Nod} {P : Nat → Pip} {m : Nat} (hN : netB n N m P = true) {r : Nat} (hr : r < n) {y : Int} (hy : vhas (vis n (frP n P m) (forest n P m).length (r : Nat)) y = true) : vhas (vis n P m (r : Nat)) y = true := by
  have ok := vis_ok (P := frP n P m) (m := (forest n P m).length) (x := ((r : Nat) : Int)) (net_forest hN) (by omega)
  obtain ⟨i, v, hv, rfl⟩ := vhas_get hy
  clear hy
  induction i using Nat.strongRecOn generalizing v with
  | _ i ih =>
    rcases Nat.eq_zero_or_pos i with rfl | h0
    · have := ok.fst
      rw [hv] at this
      injection this with this
      rw [this]
      exact vis_self n P m _
    · obtain ⟨j, u, k, hj, hu, hk, _, he, hn, _⟩ := ok.par i v h0 hv
      obtain ⟨a, ha, _, e⟩ := frP_at hk
      rw [e] at he hn
      rw [hn]
      exact vis_closed hN (by omega) (ih j hj u hu) ha he
theorem vis_more {n : Nat} {N : Nat → Nod} {P : Nat → Pip} {m : Nat} (hN : netB n N m P = true) {r : Nat} (hr : r < n) (hroot : rts n P m r = true) {y : Int} (hy : vhas (vis n P m (r : Nat)) y = true) : vhas (vis n (frP n P m) (forest n P m).length (r : Nat)) y = true := by
  have ok := vis_ok (P := P) (m := m) (x := ((r : Nat) : Int)) hN (by omega)
  obtain ⟨i, v, hv, rfl⟩ := vhas_get hy
  clear hy
  induction i using Nat.strongRecOn generalizing v with
  | _ i ih =>
    rcases Nat.eq_zero_or_pos i with rfl | h0
    · have := ok.fst
      rw [hv] at this
      injection this with this
      rw [this]
      exact vis_self n _ _ _
    · obtain ⟨j, u, k, hj, hu, hk, hen, he, hn, _⟩ := ok.par i v h0 hv
      have hm : ((k : Nat) : Int) ∈ fcol n P m (fl (rts n P m) n) := by
        unfold fcol
        refine List.mem_flatMap.2 ⟨r, fl_mem hr hroot, ens_mem.2 ⟨v, List.mem_of_getElem? hv, hen, by omega⟩⟩
      obtain ⟨i', hi', e⟩ := frP_has hk hm
      rw [← e] at he hn
      rw [hn]
      exact vis_closed (net_forest hN) (by omega) (ih j hj u hu) hi' he
/-- the forest joins what the network joins -/
theorem cmp_forest {n : Nat} {N : Nat → Nod} {P : Nat → Pip} {m : Nat} (hN : netB n N m P = true) : ∀ (k : Nat), k ≤ n → ∀ y, cmp n (frP n P m) (forest n P m).length k y = cmp n P m k y
  | 0, _, y => rfl
  | k + 1, hk, y => by
    have ih := cmp_forest hN k (by omega)
    rw [cmp_succ, cmp_succ, ih, ih]
    by_cases h : cmp n P m k k = -1
    · have hroot := open_rts hN (by omega) h
      have e : vhas (vis n (frP n P m) (forest n P m).length (k : Nat)) y = vhas (vis n P m (k : Nat)) y := by
        rw [Bool.eq_iff_iff]
        exact ⟨fun g => vis_less hN (by omega) g, fun g => vis_more hN (by omega) hroot g⟩
      rw [e]
    · rw [if_neg (fun g => h g.1), if_neg (fun g => h g.1)]
end Go.Proofs.YtdbgcbkmcbgdiaaDoor.mem
