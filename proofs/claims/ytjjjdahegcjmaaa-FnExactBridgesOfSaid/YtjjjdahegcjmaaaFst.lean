/-
  SpanningForest, the program's. Conditions: as each states.
-/
import Derived.Test.YtjjjdahegcjmaaaRows
import Derived.Test.YtjjjdahegcjmaaaCmt
import Derived.Test.YtjjjdahegcjmaaaSrt
import Derived.OwnWalkIn
namespace Go.Proofs.Ytjjjdahegcjmaaa.mem
open Go.RowKit
set_option linter.unusedVariables false
attribute [local go_sem] Oper.semAt_some

theorem wpListIn_app {F : Fence} {n : Nat} {ops : Array Oper} {rest : List Oper} {o : Oper} {a : Act} {Q : Exit → Act → World → Prop} {w w' : World} {v v' xv : Value} (hr : Sem.run Try.prog (Builtin.append_ #[37, 37] 37 #[v, xv]) w = .ok v' w')
    (hgd : o.guard = none) (s x : Operand) (ho : o.op = .call { callee := .builtin .append, args := #[s, x], argTypes := #[37, 37] }) (hty : o.type = 37) (hs : a.eval s = v) (hx : a.eval x = xv)
    (h : wpListIn F n Try.prog ops Q rest (a.put o.dst v') w') : wpListIn F n Try.prog ops Q (o :: rest) a w := by
  refine wpListIn_plain hgd fun K hK => ?_
  unfold Oper.wpIn
  refine ⟨?_, ?_⟩
  · simp [Oper.about, ho, resolve, Target.leads, Sem.run_pure]
  · rw [Oper.semAt_plain F _ _ (by rw [ho]; intro c hc'; cases hc')]
    simp [execOp, ho, hty, resolve, invoke, builtin, hs, hx, hr, Result.andThen]
    exact hK _ _ h
/-- a list's elements, as a function -/
def lD (l : List Int) (k : Nat) : Int := (l[k]?).getD 0
theorem lD_app (l : List Int) (x : Int) (k : Nat) : upd (lD l) l.length x k = if k < l.length + 1 then lD (l ++ [x]) k else upd (lD l) l.length x k := by
  split
  · next h =>
    unfold upd lD
    by_cases e : k = l.length
    · subst e; simp
    · rw [if_neg e, List.getElem?_append_left (by omega)]
  · rfl
theorem dl_lD (l : List Int) : dl l.length (lD l) = l := by
  apply List.ext_getElem?
  intro k
  by_cases h : k < l.length
  · rw [dl_get _ h]
    unfold lD
    rw [List.getElem?_eq_getElem h]
    rfl
  · rw [List.getElem?_eq_none (by rw [dl_len]; omega), List.getElem?_eq_none (by omega)]
theorem Own.notMark {w : World} {v : Value} {n g b : Nat} {d : Nat → Int} {x : Option (List Deferred)} (h : Own w v n d g) (hb : w.heap[b]? = some (.deferred x)) : b ≠ g := by
  intro e
  obtain ⟨_, _, _, h1, _⟩ := h.ex
  rw [e, h1] at hb
  cases hb
theorem Ob.notMark {w : World} {n g b : Nat} {d : Nat → Value} {x : Option (List Deferred)} (h : Ob w g n d) (h0 : 0 < n) (hb : w.heap[b]? = some (.deferred x)) : b ≠ g := by
  intro e
  have := h.cell 0 h0
  simp only [World.cell?, ← e, hb] at this
  cases this
theorem ens_le (fs : List Vs) : (ens fs).length ≤ fs.length := by
  unfold ens
  rw [List.length_map]
  exact List.length_filter_le _ _
theorem fcol_le {n : Nat} {N : Nat → Nod} {P : Nat → Pip} {m : Nat} (hN : netB n N m P = true) : ∀ (rs : List Nat), (∀ r ∈ rs, r < n) → (fcol n P m rs).length ≤ rs.length * n
  | [], _ => Nat.zero_le _
  | r :: rs, h => by
    have h1 := ens_le (vis n P m ((r : Nat) : Int))
    have h2 := (vis_ok (P := P) (m := m) (x := ((r : Nat) : Int)) hN (by have := h r (by simp); omega)).len
    have h3 := fcol_le hN rs (fun q hq => h q (by simp [hq]))
    unfold fcol at h3 ⊢
    rw [List.flatMap_cons, List.length_append, List.length_cons, Nat.add_mul]
    omega
theorem fcol_snoc (n : Nat) (P : Nat → Pip) (m : Nat) (rs : List Nat) (r : Nat) : fcol n P m (rs ++ [r]) = fcol n P m rs ++ ens (vis n P m ((r : Nat) : Int)) := by
  unfold fcol
  simp

/-- while the visits from a root come -/
def FoI (s be gr : Nat) (vr : Value) (nr : Nat) (dr : Nat → Int) (v0 v1 : Value) (bs : List Nat) (l : List Int) (w : World) (pre : List Vs) (Y : Nat → Prop) (A : World) : Prop :=
  ∃ (v' : Value) (g' : Nat), Y = (fun b => b = be ∨ b = g') ∧ Ob A be 1 (fun _ => v') ∧ Own A v' (l ++ ens pre).length (lD (l ++ ens pre)) g' ∧ Ob A w.heap.size 2 (bx v0 v1) ∧ Own A vr nr dr gr ∧ (∀ b, b ∈ bs → A.heap[b]? = some (.deferred (some []))) ∧ Below w.heap.size w A ∧
    g' ≠ be ∧ g' ≠ gr ∧ w.heap.size < g' ∧ (g' < s ∨ s + 4 ≤ g')
theorem FoI.upd {s be gr : Nat} {vr : Value} {nr : Nat} {dr : Nat → Int} {v0 v1 : Value} {bs : List Nat} {l : List Int} {w : World} {pre : List Vs} {Y X : Nat → Prop} {A B : World} (h : FoI s be gr vr nr dr v0 v1 bs l w pre Y A) (u : Upd X A B)
    (hY : ∀ b, X b → s ≤ b ∧ b < s + 4) (hbe : be < s) (h0 : ¬ X w.heap.size) (hr : ¬ X gr) (hbs : ∀ b, b ∈ bs → ¬ X b) (hX : ∀ k, X k → w.heap.size ≤ k) : FoI s be gr vr nr dr v0 v1 bs l w pre Y B := by
  obtain ⟨v', g', h1, h2, h3, h4, h5, h6, h7, h8⟩ := h
  refine ⟨v', g', h1, h2.keep (u.block _ h2.lt (fun e => by have := hY _ e; omega)), h3.keep (u.block _ h3.lt (fun e => by have := hY _ e; have := h8.2.2.2; omega)), h4.keep (u.block _ h4.lt h0), h5.keep (u.block _ h5.lt hr), fun b hb2 => ?_, h7.trans (u.below h7.size (fun k _ hk => hX k hk)), h8⟩
  have := h6 b hb2
  exact (u.block b (Array.getElem?_eq_some_iff.1 this).1 (hbs b hb2)).trans this

noncomputable def foN (n : Nat) (N : Nat → Nod) (m : Nat) (P : Nat → Pip) : Nat := if cmC (netB n N m P) = 0 then (forest n P m).length else 0
set_option maxRecDepth 100000 in
set_option maxHeartbeats 4000000 in
theorem spanningForestI_any (w : World) (v : Value) (n : Nat) (N : Nat → Nod) (m : Nat) (P : Nat → Pip) (lo hi : Nat) (h : NetAt w v n N m P lo hi) (hhi : hi ≤ w.heap.size) (hN : ∀ i, i < n → (N i).s.size ≤ 9223372036854775807) :
    Calls Try.prog 38 #[v] w (LIPost w (foN n N m P) (lD (forest n P m)) (cmC (netB n N m P))) := by
  obtain ⟨p0, c0, p1, c1, rfl, hn9, hm9⟩ := h.parts
  have HV := Lib.hid h
  have HN := Lib.hid hN
  have A0 := boxed w (.slice p0 n c0) (.slice p1 m c1) 30
  have B0 := below_new w (.cells #[.slice p0 n c0, .slice p1 m c1] 30)
  have hs0 : (w.alloc (.cells #[.slice p0 n c0, .slice p1 m c1] 30)).heap.size = w.heap.size + 1 := by simp
  clear h hN
  refine (callsIn_wide (n := 9)).1 (callsIn_of_wp_marks Try.func38 rfl trivial ?_ rfl)
  simp only [Try.ntmps38, List.size_toArray, List.length_cons, List.length_nil, Nat.reduceAdd, Nat.reduceSub, Array.replicate_succ, Array.replicate_zero, List.push_toArray, List.append_toArray, List.nil_append, List.cons_append]
  gi_wp2
  refine ⟨trivial, (callsIn_wide.2 (isNetwork_any _ _ n N m P lo hi (HV.out.below B0 hhi) (by omega) HN.out)).mono ?_⟩
  rintro e w1 ⟨rfl, b1⟩
  have A1 := A0.below b1 (by omega)
  have B1 := B0.trans (b1.mono (by omega))
  have hs1 := b1.size
  have e0 := A1.b0
  have e1 := A1.b1
  have e2 : w.heap.size < w1.heap.size := by omega
  clear A0 B0 b1
  cases hB : netB n N m P
  · have H2 := Lib.hid (show foN n N m P = 0 by unfold foN; rw [hB]; rfl)
    have H3 := Lib.hid (show cmC (netB n N m P) = 1 by rw [hB]; rfl)
    clear hB
    gi_wp2
    exact ⟨_, results_tmp2 rfl _ _ _, li_err H2.out H3.out.symm rfl B1⟩
  have H2 := Lib.hid (show foN n N m P = (forest n P m).length by unfold foN; rw [hB]; rfl)
  have H3 := Lib.hid (show cmC (netB n N m P) = 0 by rw [hB]; rfl)
  obtain ⟨hn1, hn24, hm40⟩ := net_sz hB
  have HFE := Lib.hid (fun l => forest_eq (P := P) (m := m) hB (l := l))
  have HFL := Lib.hid (fun rs => fcol_le (P := P) (m := m) hB rs)
  have HLEN := Lib.hid (fun (r : Nat) (hr : r < n) => (vis_ok (P := P) (m := m) (x := ((r : Nat) : Int)) hB ⟨Int.natCast_nonneg _, by omega⟩).len)
  have HB := Lib.hid hB
  clear hB
  have b2 := below_new w1 (.cells #[] 2)
  have F0 := Own.nilled w1 (lD [])
  obtain ⟨w2, hw2⟩ : ∃ w2, w1.alloc (.cells #[] 2) = w2 := ⟨_, rfl⟩
  have hs2 : w2.heap.size = w1.heap.size + 1 := by rw [← hw2]; simp
  rw [hw2] at b2 F0
  have b3 := below_new w2 (.cells #[.slice (some ⟨w1.heap.size, 0, none⟩) 0 0] 37)
  have O3 := Ob.one w2 (.slice (some ⟨w1.heap.size, 0, none⟩) 0 0) 37
  have F3 := F0.alloc (.cells #[.slice (some ⟨w1.heap.size, 0, none⟩) 0 0] 37)
  have A3 := (A1.below b2 (by omega)).below b3 (by omega)
  have B3 := (B1.trans (b2.mono (by omega))).trans (b3.mono (by omega))
  have hs3 : (w2.alloc (.cells #[.slice (some ⟨w1.heap.size, 0, none⟩) 0 0] 37)).heap.size = w2.heap.size + 1 := by simp
  obtain ⟨w3, hw3⟩ : ∃ w3, w2.alloc (.cells #[.slice (some ⟨w1.heap.size, 0, none⟩) 0 0] 37) = w3 := ⟨_, rfl⟩
  rw [hw3] at O3 F3 A3 B3 hs3
  have HA := Lib.hid A3
  have HO := Lib.hid O3
  have HF := Lib.hid F3
  have HBB := Lib.hid B3
  rw [hs2] at hs3
  have HS2 := Lib.hid hs2
  have HS3 := Lib.hid hs3
  rw [← hw2] at hw3
  clear b2 F0 b3 O3 F3 A3 B3 hw2 A1 B1 hs2 hs3
  have f0 := HA.out.b0
  have f1 := HA.out.b1
  have f2 : w.heap.size < w3.heap.size := by have := HS3.out; omega
  gi_wp2
  refine ⟨trivial, (callsIn_wide.2 (leastNodes_any _ _ n N m P lo hi (HV.out.below HBB.out hhi) (by omega) HB.out)).mono ?_⟩
  rintro e w4 ⟨vr, gr, rfl, orr, hgr, b4⟩
  obtain ⟨cr, rfl⟩ := orr.shape
  have HR := Lib.hid orr
  have HA4 := Lib.hid (HA.out.below b4 f2)
  have HO4 := Lib.hid (HO.out.below b4 HO.out.lt)
  have HF4 := Lib.hid (HF.out.keep (b4.block _ HF.out.lt))
  have HB4 := Lib.hid (HBB.out.trans (b4.mono (by omega)))
  have hs4 := b4.size
  have hcn := cnt_le n P m
  clear HA HO HF HBB f0 f1 orr b4
  obtain ⟨be, hbe⟩ : ∃ be, w1.heap.size + 1 = be := ⟨_, rfl⟩
  rw [HS2.out, hbe] at HO4
  rw [hbe]
  obtain ⟨g0, hg0⟩ : ∃ g0, w1.heap.size = g0 := ⟨_, rfl⟩
  rw [hg0] at HF4 HO4
  rw [hg0]
  have k1 : w.heap.size < g0 := by omega
  have k2 : g0 < be := by omega
  have k3 : be < gr := by have := HS3.out; omega
  have k4 : gr < w4.heap.size := HR.out.lt
  clear hbe hg0 HS2 HS3 e0 e1 e2 f2 hgr hs4 hs1
  gi_wp2
  refine wpIn_loop (fun a' w' => ∃ (k : Nat) (bs : List Nat) (v' : Value) (g' : Nat) (l : List Int) (u6 u16 u17 u18 u19 u20 u21 u31 : Value), a' = { tmps := #[.agg #[.slice p0 n c0, .slice p1 m c1], .pointer (some ⟨w.heap.size, 0, none⟩), .slice none 0 0, .int .i64 0, .pointer (some ⟨be, 0, none⟩), undef, u6, undef, .agg #[.slice p0 n c0, .slice p1 m c1], .bool true, .bool false, .slice (some ⟨g0, 0, none⟩) 0 0, .agg #[.slice p0 n c0, .slice p1 m c1], .slice (some ⟨gr, 0, none⟩) (cnt n P m) cr, .int .i64 (cnt n P m : Nat), .int .i64 (k : Nat), u16, u17, u18, u19, u20, u21, undef, undef, undef, undef, undef, undef, undef, undef, undef, u31, undef, undef, undef], defers := marks bs } ∧ k ≤ cnt n P m ∧ w'.cell? ⟨be, 0, none⟩ = some v' ∧ Ob w' be 1 (fun _ => v') ∧ Own w' v' l.length (lD l) g' ∧ l = fcol n P m ((fl (rts n P m) n).take k) ∧ Ob w' w.heap.size 2 (bx (.slice p0 n c0) (.slice p1 m c1)) ∧ Own w' (.slice (some ⟨gr, 0, none⟩) (cnt n P m) cr) (cnt n P m) (fd (rts n P m) n) gr ∧ (∀ b, b ∈ bs → w'.heap[b]? = some (.deferred (some []))) ∧ (∀ b, b ∈ bs → w.heap.size < b) ∧ bs.Pairwise (· ≠ ·) ∧ Below w.heap.size w w' ∧ g' ≠ be ∧ g' ≠ gr ∧ w.heap.size < g') (fun a' _ => cnt n P m - (intOf (a'.tmps.getD 15 undef)).toNat) ?_ ?_
  · exact ⟨0, [], _, g0, [], _, _, _, _, _, _, _, _, rfl, Nat.zero_le _, HO4.out.cell 0 (by omega), HO4.out, HF4.out, rfl, HA4.out, HR.out, by simp, by simp, by simp, HB4.out, by omega, by omega, k1⟩
  · rintro a' wr ⟨k, bs, v', g', l, u6, u16, u17, u18, u19, u20, u21, u31, rfl, hk, hvc, ob, of, hl, oa, orr, hbs, hbg, hbd, hb, hx1, hx2, hx3⟩
    clear HR HA4 HO4 HF4 HB4 k4
    obtain ⟨cl, rfl⟩ := of.shape
    have HF := Lib.hid of
    have HO := Lib.hid ob
    have HA := Lib.hid oa
    have HR := Lib.hid orr
    have HL := Lib.hid hl
    have HBS := Lib.hid hbs
    have HBG := Lib.hid hbg
    have HBD := Lib.hid hbd
    have HBB := Lib.hid hb
    clear of ob oa orr hl hbs hbg hbd hb
    dsimp only
    generalize hQ : Exit.then _ _ = Q
    have HQ := Lib.hid hQ
    clear hQ
    have k0 : (0 : Int) ≤ (k : Int) := Int.natCast_nonneg _
    have lf := HF.out.lt
    have lb := HO.out.lt
    have lr := HR.out.lt
    have la := HA.out.lt
    by_cases hlt : k < cnt n P m
    · have j1 : (k : Int) < (cnt n P m : Int) := by omega
      obtain ⟨r, hr⟩ : ∃ r, (fl (rts n P m) n)[k]? = some r := ⟨_, List.getElem?_eq_getElem hlt⟩
      have hrn := (fl_lt (List.mem_of_getElem? hr)).1
      have y0 : wr.cell? ⟨gr, k, none⟩ = some (.int .i64 (r : Int)) := by
        have := HR.out.row.cell k hlt
        unfold fd at this
        rwa [hr] at this
      have y1 : wr.cell? ⟨w.heap.size, 0, none⟩ = some (.slice p0 n c0) := HA.out.b0
      have y2 : wr.cell? ⟨w.heap.size, 1, none⟩ = some (.slice p1 m c1) := HA.out.b1
      have HTK := Lib.hid (take_one hr)
      have hll : l.length ≤ 600 := by
        have h1 := HFL.out ((fl (rts n P m) n).take k) (fun q hq => (fl_lt (List.mem_of_mem_take hq)).1)
        rw [← HL.out, List.length_take] at h1
        have : min k (fl (rts n P m) n).length * n ≤ 24 * 24 := Nat.mul_le_mul (by omega) hn24
        omega
      clear hr
      gi_wp2
      refine ⟨trivial, (callsIn_wide.2 (visitsFrom_any 8 (by omega) wr _ n N m P lo hi (HV.out.below HBB.out hhi) (by omega) HB.out r hrn)).mono ?_⟩
      rintro e w5 ⟨lb5, rfl, hseq, b5, hs5⟩
      have f5 := HF.out.below b5 (Nat.le_refl _)
      have o5 := HO.out.below b5 (by omega)
      have a5 := HA.out.below b5 (by omega)
      have r5 := HR.out.below b5 (Nat.le_refl _)
      have s5 : ∀ b, b ∈ bs → w5.heap[b]? = some (.deferred (some [])) := fun b hb => (b5.block b ((Array.getElem?_eq_some_iff.1 (HBS.out b hb)).1)).trans (HBS.out b hb)
      have bb5 := HBB.out.trans (b5.mono (by omega))
      have sl5 : ∀ b, b ∈ bs → b < w5.heap.size := fun b hb => (Array.getElem?_eq_some_iff.1 (s5 b hb)).1
      have hvl := HLEN.out r hrn
      clear y0 y1 y2
      gi_wp2
      refine wpIn_range_vis rfl (by omega) rfl trivial (fun _ _ => ?_) hseq (Upd.refl _ _) (fun b hb => by omega) (fun x => rfl) (fun b => b = be ∨ b = g') (fun b hb => ⟨by omega, by omega⟩)
        (FoI w5.heap.size be gr (.slice (some ⟨gr, 0, none⟩) (cnt n P m) cr) (cnt n P m) (fd (rts n P m) n) (.slice p0 n c0) (.slice p1 m c1) bs l w) ?_ ?_ ?_ ?_
      · rfl
      · exact fun pre Y A B hi hu => hi.upd hu (fun b hb => hb) (by omega) (by omega) (by omega) (fun b hb => by have := sl5 b hb; omega) (fun k hk => by omega)
      · exact ⟨_, g', rfl, o5, by simpa [ens] using f5, a5, r5, s5, bb5, hx1, hx2, hx3, .inl (by omega)⟩
      · intro lp pre x post Y W hx hi hsz hY
        obtain ⟨vv, gg, rfl, hob, hof, hoa, horr, hos, hbl, hy1, hy2, hy3, hy4⟩ := hi
        obtain ⟨cg, rfl⟩ := hof.shape
        have HLX := fun (x : Vs) => (Lib.hid (show (if x.en = -1 then l ++ ens (pre ++ [x]) = l ++ ens pre else l ++ ens (pre ++ [x]) = (l ++ ens pre) ++ [x.en]) by
          rw [ens_app]
          by_cases e : x.en = -1
          · rw [if_pos e, if_pos e]
          · rw [if_neg e, if_neg e, List.append_assoc]))
        have hlp : (l ++ ens pre).length ≤ 1000 := by
          have h1 := ens_le pre
          have h2 : pre.length ≤ (vis n P m ((r : Nat) : Int)).length := by rw [hx]; simp
          rw [List.length_append]
          omega
        generalize l ++ ens pre = L at *
        simp only [encV, List.zip_toArray, List.zip_cons_cons, List.zip_nil_right, List.foldl_toArray, List.foldl_cons, List.foldl_nil, List.setIfInBounds_toArray, List.set_cons_succ, List.set_cons_zero]
        gi_wp2
        refine ⟨Upd.alloc _ _ _, fun Wb hWb => ?_⟩
        have hbv := boxedV W x 78
        have hst := hWb.size
        simp only [World.size_alloc] at hst
        have hbk : ∀ b, b < W.heap.size → ¬ (w5.heap.size ≤ b ∧ b < w5.heap.size + 4) → Wb.heap[b]? = W.heap[b]? := fun b h1 h2 => (hWb.block b (by simp; omega) h2).trans (Below.heap_alloc _ _ _ h1)
        have hbv2 := hbv.keep (hWb.block W.heap.size (by simp) (by omega))
        have of2 := hof.keep (hbk _ hof.lt (by omega))
        have ob2 := hob.keep (hbk _ hob.lt (by omega))
        have oa2 := hoa.keep (hbk _ hoa.lt (by omega))
        have or2 := horr.keep (hbk _ horr.lt (by omega))
        have os2 : ∀ b, b ∈ bs → Wb.heap[b]? = some (.deferred (some [])) := fun b hb => (hbk b ((Array.getElem?_eq_some_iff.1 (hos b hb)).1) (by have := sl5 b hb; omega)).trans (hos b hb)
        have lt1 := of2.lt
        have lt2 := ob2.lt
        have lt3 := hof.lt
        have lt4 := hob.lt
        have lt5 := or2.lt
        have lt6 := horr.lt
        have y0 : Wb.cell? ⟨be, 0, none⟩ = some (.slice (some ⟨gg, 0, none⟩) L.length cg) := ob2.cell 0 (by omega)
        have y1 : Wb.cell? ⟨W.heap.size, 1, none⟩ = some (.int .i64 x.en) := hbv2.cell 1 (by omega)
        have y2 : Wb.frozen? ⟨be, 0, none⟩ = false := ob2.free 0
        have hbl2 : Below w.heap.size w Wb := (below_alloc hbl (by omega) (.cells #[.int .i64 x.nd, .int .i64 x.en, .int .i64 x.ds] 78)).trans (hWb.below (by simp; omega) (fun k _ hk => by omega))
        by_cases hen : x.en = -1
        · have hb1 : (x.en != -1) = false := by simp [hen]
          have HEA := Lib.hid (show l ++ ens (pre ++ [x]) = L by have := (HLX x).out; rwa [if_pos hen] at this)
          have HW := Lib.hid hWb
          have HS2 := Lib.hid os2
          have H5 := Lib.hid sl5
          have HBK := Lib.hid hbk
          clear hen hWb os2 sl5 s5 hbk hos hbv hbv2
          gi_wp2
          exact ⟨_, Upd.refl _ _, ⟨_, gg, rfl, ob2, by rw [HEA.out]; exact of2, oa2, or2, HS2.out, hbl2, hy1, hy2, hy3, hy4⟩, fun b hb => .inl hb⟩
        · have hb1 : (x.en != -1) = true := by simp [hen]
          have HEA := Lib.hid (show l ++ ens (pre ++ [x]) = L ++ [x.en] by have := (HLX x).out; rwa [if_neg hen] at this)
          obtain ⟨v7, w7, g7, hr7, ap⟩ := app_run (Wb.alloc (.cells #[.int .i64 x.en] 2)) _ L.length _ gg x.en Wb.heap.size (of2.alloc _) (cell_new1 Wb _) (by omega)
          have O7 := ap.own.congr (e := lD (L ++ [x.en])) (fun k hk => by rw [lD_app, if_pos hk])
          obtain ⟨c7, rfl⟩ := ap.own.shape
          have oth : ∀ b, b ≠ gg → b < Wb.heap.size → w7.heap[b]? = Wb.heap[b]? ∧ b ≠ g7 := fun b h1 h2 => by
            have := ap.other h1 (by rw [szal]; omega)
            exact ⟨this.1.trans (Below.heap_alloc _ _ _ h2), this.2⟩
          have hbe7 := oth be (fun e => hy1 e.symm) lt2
          have hgr7 := oth gr (fun e => hy2 e.symm) lt5
          have hw7 := oth w.heap.size (by omega) oa2.lt
          have y3 : w7.frozen? ⟨be, 0, none⟩ = false := (ob2.keep hbe7.1).free 0
          have y4 : w7.cell? ⟨be, 0, none⟩ = some (.slice (some ⟨gg, 0, none⟩) L.length cg) := (ob2.keep hbe7.1).cell 0 (by omega)
          have hg7 : (g7 < w5.heap.size ∨ w5.heap.size + 4 ≤ g7) ∧ w.heap.size < g7 := by
            rcases ap.how with ⟨rfl, _⟩ | ⟨rfl, _, _⟩
            · exact ⟨hy4, hy3⟩
            · rw [szal]; exact ⟨.inr (by omega), by omega⟩
          have hU7 : Upd (fun b => b = gg) Wb w7 := by
            refine (Upd.alloc _ Wb (.cells #[.int .i64 x.en] 2)).trans ?_
            rcases ap.how with ⟨rfl, ho⟩ | ⟨_, hb, _⟩
            · exact Upd.of_only ho
            · exact Upd.of_below hb
          have hlt7 : Wb.heap.size ≤ w7.heap.size := hU7.size
          have o1 := (Only.refl be w7).setCell 0 (.slice (some ⟨g7, 0, none⟩) (L.length + 1) c7)
          have O8 := O7.keep (o1.block g7 (fun e => hbe7.2 e.symm))
          have B8 : Ob (w7.setCell ⟨be, 0, none⟩ (.slice (some ⟨g7, 0, none⟩) (L.length + 1) c7)) be 1 (fun _ => .slice (some ⟨g7, 0, none⟩) (L.length + 1) c7) := ((ob2.keep hbe7.1).set 0 _ (by omega)).congr (fun k hk => by have : k = 0 := (by omega); subst this; rfl)
          have A8 := (oa2.keep hw7.1).only o1 (by omega)
          have R8 := (or2.keep hgr7.1).keep (o1.block gr (by omega))
          have S8 : ∀ b, b ∈ bs → (w7.setCell ⟨be, 0, none⟩ (.slice (some ⟨g7, 0, none⟩) (L.length + 1) c7)).heap[b]? = some (.deferred (some [])) := fun b hb => by
            have h1 := of2.notMark (os2 b hb)
            have h2 := ob2.notMark (by omega) (os2 b hb)
            have h3 := (Array.getElem?_eq_some_iff.1 (os2 b hb)).1
            exact (o1.block b h2).trans ((oth b h1 h3).1.trans (os2 b hb))
          have L8 := hbl2.trans ((hU7.below (by omega) (fun k _ hk => by omega)).trans (o1.below (by omega)))
          have U8 : Upd (fun b => (b = be ∨ b = gg) ∨ W.heap.size ≤ b) Wb (w7.setCell ⟨be, 0, none⟩ (.slice (some ⟨g7, 0, none⟩) (L.length + 1) c7)) := (hU7.mono (fun b _ hb => .inl (.inr hb))).trans ((Upd.of_only o1).mono (fun b _ hb => .inl (.inl hb)))
          have hY8 : ∀ b, (b = be ∨ b = g7) → (b = be ∨ b = gg) ∨ (W.heap.size ≤ b ∧ b < w7.heap.size) := by
            rintro b (rfl | rfl)
            · exact .inl (.inl rfl)
            · rcases ap.how with ⟨rfl, _⟩ | ⟨rfl, _, hz⟩
              · exact .inl (.inr rfl)
              · rw [szal] at hz ⊢; exact .inr ⟨by omega, by omega⟩
          have H8 := Lib.hid O8
          have HB8 := Lib.hid B8
          have HA8 := Lib.hid A8
          have HR8 := Lib.hid R8
          have HS8 := Lib.hid S8
          have HL8 := Lib.hid L8
          have HU8 := Lib.hid U8
          have HY8 := Lib.hid hY8
          have hz1 : g7 ≠ be := fun e => hbe7.2 e.symm
          have hz2 : g7 ≠ gr := fun e => hgr7.2 e.symm
          have H5 := Lib.hid sl5
          clear O8 B8 A8 R8 S8 L8 U8 hY8 o1 hU7 oth ap O7 hen hWb os2 sl5 s5 hbk hos hbv hbv2 hbe7 hgr7 hw7
          gi_wp2_with (gi_at_builtin; refine wpListIn_app hr7 rfl _ _ rfl rfl rfl rfl ?_)
          refine ⟨_, HU8.out, ⟨_, g7, rfl, HB8.out, ?_, HA8.out, HR8.out, HS8.out, HL8.out, hz1, hz2, hg7.2, hg7.1⟩, fun b hb => ?_⟩
          · rw [HEA.out, List.length_append, List.length_singleton]
            exact H8.out
          · have := HY8.out b hb
            simpa [sz_set] using this
      · intro Y W hi hd
        obtain ⟨vv, gg, rfl, hob, hof, hoa, horr, hos, hbl, hy1, hy2, hy3, hy4⟩ := hi
        have H1 := Lib.hid hos
        have H5 := Lib.hid sl5
        have H6 := Lib.hid hd
        have hWs := (Array.getElem?_eq_some_iff.1 hd).1
        clear hos sl5 s5 hd
        gi_wp2
        rw [← HQ.out]
        refine ⟨⟨k + 1, w5.heap.size :: bs, vv, gg, l ++ ens (vis n P m ((r : Nat) : Int)), _, _, _, _, _, _, _, _, rfl, hlt, hob.cell 0 (by omega), hob, hof, ?_, hoa, horr, ?_, ?_, ?_, hbl, hy1, hy2, hy3⟩, ?_⟩
        · rw [HTK.out, fcol_snoc, HL.out]
        · rintro b hb
          rcases List.mem_cons.1 hb with rfl | hb
          · exact H6.out
          · exact H1.out b hb
        · rintro b hb
          rcases List.mem_cons.1 hb with rfl | hb
          · omega
          · exact HBG.out b hb
        · exact List.pairwise_cons.2 ⟨fun b hb => by have := H5.out b hb; omega, HBD.out⟩
        · simp [intOf]
          omega
    · have hkn : k = cnt n P m := by omega
      have j1 : ¬ ((k : Int) < (cnt n P m : Int)) := by omega
      have hlf : l = fcol n P m (fl (rts n P m) n) := by
        rw [HL.out, List.take_of_length_le (by unfold cnt at hkn; omega)]
      have hll : l.length ≤ 600 := by
        have h1 := HFL.out (fl (rts n P m) n) (fun q hq => (fl_lt hq).1)
        rw [← hlf] at h1
        have : (fl (rts n P m) n).length * n ≤ 24 * 24 := Nat.mul_le_mul (by have := hcn; unfold cnt at this; omega) hn24
        omega
      have hfo := HFE.out ((dl l.length (lD l)).mergeSort fun x y => decide (x ≤ y)) (by rw [dl_lD, ← hlf]; exact List.mergeSort_perm _ _) (by
        have := List.pairwise_mergeSort (le := fun (x y : Int) => decide (x ≤ y)) (fun a b c => by simp only [decide_eq_true_eq]; omega) (fun a b => by simp only [Bool.or_eq_true, decide_eq_true_eq]; omega) (dl l.length (lD l))
        exact this.imp (fun h => by simpa using h))
      have HFO := Lib.hid hfo
      have HLE := Lib.hid (show l.length = (forest n P m).length by rw [← HFO.out, List.length_mergeSort, dl_len])
      have y0 : wr.cell? ⟨be, 0, none⟩ = some (.slice (some ⟨g', 0, none⟩) l.length cl) := HO.out.cell 0 (by omega)
      clear hfo hlf hkn
      gi_wp2
      rw [← HQ.out]
      gi_wp2
      refine ⟨trivial, (callsIn_wide.2 (sort_any wr _ l.length _ g' HF.out (by omega))).mono ?_⟩
      rintro e w6 ⟨rfl, o6, u6⟩
      have hO6 := HO.out.keep (u6.block be lb (fun e => hx1 e.symm))
      have hS6 : ∀ b, b ∈ bs → w6.heap[b]? = some (.deferred (some [])) := fun b hb => (u6.block b ((Array.getElem?_eq_some_iff.1 (HBS.out b hb)).1) (HF.out.notMark (HBS.out b hb))).trans (HBS.out b hb)
      have HB6 := Lib.hid (HBB.out.trans (u6.below (by omega) (fun k _ hk => by omega)))
      have HO6 := Lib.hid o6
      have HS6 := Lib.hid hS6
      have y1 : w6.cell? ⟨be, 0, none⟩ = some (.slice (some ⟨g', 0, none⟩) l.length cl) := hO6.cell 0 (by omega)
      clear hO6 hS6 u6 o6 y0
      gi_wp2
      refine leaves_marks (by simp) bs w6 HS6.out HBD.out (fun w' hw' => ?_)
      refine ⟨_, results_tmp2 rfl _ _ _, ?_⟩
      refine li_ok (by rw [H2.out, HLE.out]) (by rw [H3.out]; rfl) ((HO6.out.congr (fun k hk => ?_)).keep (hw'.block g' HO6.out.lt (fun hh => HO6.out.notMark (HS6.out g' hh) rfl))) (by omega) (HB6.out.trans (hw'.below HB6.out.size (fun j _ hj => by have := HBG.out j hj; omega)))
      rw [HFO.out]
      rfl
end Go.Proofs.Ytjjjdahegcjmaaa.mem
