/-
  Appending a slice of structs to an empty slice of the call's own. Condition: at most two million elements.
-/
import Derived.Test.YtdbgcbkmcbgdiaaDoorRows
import Derived.Test.YtdbgcbkmcbgdiaaDoorNetC
import Derived.WalkKit
import Derived.ProofKit
import Derived.Laws.AppendOwn
namespace Go.Proofs.YtdbgcbkmcbgdiaaDoor.mem
open Go.RowKit
set_option linter.unusedVariables false

theorem At.flat {w : World} {b o n z k : Nat} {c : Nat → Nat → Value} (h : At w b o n z c) (hk : k < n * z) : w.cell? ⟨b, o + k, none⟩ = some (c (k / z) (k % z)) := by
  have hz : 0 < z := by
    rcases Nat.eq_zero_or_pos z with e | e
    · subst e; omega
    · exact e
  have h1 : k / z < n := (Nat.div_lt_iff_lt_mul hz).2 hk
  have h2 := h.cell (k / z) (k % z) h1 (Nat.mod_lt _ hz)
  have h3 : o + k / z * z + k % z = o + k := by
    have := Nat.div_add_mod k z
    rw [Nat.mul_comm] at this
    omega
  rw [h3] at h2
  exact h2
theorem flat_ij {i j z : Nat} (hj : j < z) : (i * z + j) / z = i ∧ (i * z + j) % z = j := by
  have hz : 0 < z := by omega
  constructor
  · rw [Nat.mul_comm, Nat.mul_add_div hz, Nat.div_eq_of_lt hj, Nat.add_zero]
  · rw [Nat.mul_comm, Nat.mul_add_mod, Nat.mod_eq_of_lt hj]
/-- the cells of n elements in a row -/
def flatL (c : Nat → Nat → Value) (n z : Nat) : List Value := (List.range (n * z)).map fun k => c (k / z) (k % z)
theorem flatL_len (c : Nat → Nat → Value) (n z : Nat) : (flatL c n z).length = n * z := by simp [flatL]
theorem flatL_get {c : Nat → Nat → Value} {n z i j : Nat} (hi : i < n) (hj : j < z) : (flatL c n z)[i * z + j]? = some (c i j) := by
  have h := ij_lt hi hj
  obtain ⟨h1, h2⟩ := flat_ij (i := i) hj
  unfold flatL
  rw [List.getElem?_map, List.getElem?_range h]
  simp [h1, h2]
theorem flatL_cell {w : World} {b o n z : Nat} {c : Nat → Nat → Value} (h : At w b o n z c) (k : Nat) (u : Value) (hu : (flatL c n z)[k]? = some u) : w.cell? ((⟨b, o, none⟩ : Addr).add k) = some u := by
  have hk : k < n * z := by
    have := (List.getElem?_eq_some_iff.1 hu).1
    rwa [flatL_len] at this
  have hadd : (⟨b, o, none⟩ : Addr).add k = ⟨b, o + k, none⟩ := by
    unfold Addr.add
    split <;> simp_all
  rw [hadd, h.flat hk]
  unfold flatL at hu
  rw [List.getElem?_map, List.getElem?_range hk] at hu
  exact hu

theorem appE {t e : TypeId} {zv : Value} {z bytes : Nat} (ht : Tryd.prog.underlying t = some (.slice e)) (hinf : (Tryd.prog.info? e).map (fun i => (i.zero, i.size, i.bytes)) = some (some zv, z, bytes)) (hb64 : bytes ≤ 64)
    (W : World) (B : Nat) (p : Option Addr) (n cap : Nat) (c : Nat → Nat → Value) (lo hi : Nat) (h : Cs W (.slice p n cap) n z c lo hi) (hn : n ≤ 2000000) :
    ∃ v' w' g, Sem.run Tryd.prog (Builtin.append_ #[t, t] t #[.slice (some ⟨B, 0, none⟩) 0 0, .slice p n cap]) W = .ok v' w' ∧ OwnS w' v' n z c g ∧ Below W.heap.size W w' ∧ W.heap.size ≤ g := by
  obtain ⟨i0, hi0, hz0, hz1, hz2⟩ := info_parts hinf
  obtain ⟨q, cq, hv, h1, h2, h3⟩ := h.ex
  injection hv with e1 _ e2
  subst e1 e2
  rcases Nat.eq_zero_or_pos n with rfl | hpos
  · refine ⟨.slice (some ⟨B, 0, none⟩) 0 0, W, W.heap.size, ?_, ⟨_, 0, rfl, Nat.le_refl _, by omega, .inl rfl⟩, Below.refl _ _, Nat.le_refl _⟩
    rcases p with _ | a
    · simp [Builtin.append_, run_underlying ht, sizeOf, typeInfo, hi0, Builtin.lenOf, Builtin.firstCells, storeCells]
    · have hf := run_firstCells_some (P := Tryd.prog) W i0.size 0 a 0 cap [] (by simp) (by intro j u hu; cases hu)
      simp [Builtin.append_, run_underlying ht, sizeOf, typeInfo, hi0, Builtin.lenOf, hf, storeCells]
  · rcases h3 with h3 | ⟨b, o, rfl, g1, g2, g3⟩
    · omega
    have hg := run_append_grow (P := Tryd.prog) W t t e i0 zv ht hi0 hz0 ⟨B, 0, none⟩ 0 0 [] (by simp) (by intro j u hu; cases hu) ⟨b, o, none⟩ n cap (flatL c n z) (by rw [flatL_len, hz1]) (flatL_cell g3) (by omega) (by omega)
      (growslice_fits (by omega) (by rw [hz2]; have : (0 + n) * bytes ≤ 2000000 * 64 := Nat.mul_le_mul (by omega) hb64; omega))
    refine ⟨_, _, W.heap.size, hg, ?_, ((Below.refl _ W).drew).alloc (Nat.le_refl _) _, Nat.le_refl _⟩
    have hge := grownCap_ge W (0 + n) 0 e
    have hle := grownCap_le_maxLen W (0 + n) 0 e (by unfold maxLen; omega)
    unfold maxLen at hle
    rw [Nat.zero_add] at hge hle ⊢
    refine (Rw.new W.drew _ e n z c ?_ ?_).own hge hle
    · simp only [Array.size_append, List.size_toArray, flatL_len]
      omega
    · intro i j hi hj
      have hij := ij_lt hi hj
      rw [Array.getElem?_append_left (by simp [flatL_len]; omega), Array.getElem?_append_right (by simp)]
      simp only [List.size_toArray, List.length_nil, Nat.sub_zero, List.getElem?_toArray]
      exact flatL_get hi hj

/-- at such an append, for the walk and in a region, when its run is known -/
theorem wpList_appT {t : TypeId} {ops : Array Oper} {rest : List Oper} {o : Oper} {a : Act} {Q : Exit → Act → World → Prop} {w w' : World} {v v' xv : Value} (hr : Sem.run Tryd.prog (Builtin.append_ #[t, t] t #[v, xv]) w = .ok v' w')
    (hgd : o.guard = none) (s x : Operand) (ho : o.op = .call { callee := .builtin .append, args := #[s, x], argTypes := #[t, t] }) (hty : o.type = t) (hs : a.eval s = v) (hx : a.eval x = xv)
    (h : wpList Tryd.prog ops Q rest (a.put o.dst v') w') : wpList Tryd.prog ops Q (o :: rest) a w := by
  refine wpList_plain hgd fun K hK => ?_
  unfold Oper.wp execOp
  simp only [ho, hty, resolve, invoke, builtin, Sem.run_bind, Sem.run_pure, Result.andThen_ok, List.map_toArray, List.map_cons, List.map_nil, hs, hx, hr]
  exact hK _ _ h
theorem step_appT {t : TypeId} {ops : Array Oper} {o : Oper} {a : Act} {w : World} {K : Act → World → Prop} {Q : Exit → Act → World → Prop} {E : Prop} {v' : Value} {w' : World} {v xv : Value}
    (hr : Sem.run Tryd.prog (Builtin.append_ #[t, t] t #[v, xv]) w = .ok v' w') (hg : o.guard = none) (s x : Operand)
    (hop : o.op = Op.call { callee := Callee.builtin Builtin.append, args := #[s, x], argTypes := #[t, t] }) (hty : o.type = t) (hs : a.eval s = v) (hx : a.eval x = xv)
    (hK : K (a.put o.dst v') w') : if Region.wanted o (yielded ops a.tmps) = true then Oper.wp Tryd.prog o a w K Q else E := by
  have hw : Region.wanted o (yielded ops a.tmps) = true := by simp [Region.wanted, hg]
  rw [if_pos hw]
  unfold Oper.wp
  simp [execOp, hop, hty, resolve, invoke, builtin, hs, hx, hr, Result.andThen]
  exact hK
end Go.Proofs.YtdbgcbkmcbgdiaaDoor.mem
