/-
  Several texts in one, part 1 of 6.
-/
import Derived.Test.YtdbgcbkmcbgdiaaGreatRows
import Derived.WalkKit
import Derived.ProofKit
import Derived.OpenShut
import Derived.Below
import Derived.ChangeSame
import Derived.ChangeSlices
import Derived.WideKeyArgs
import Derived.Lib.Hide
import Derived.RegionTactic
import Derived.BigRegion
import Derived.Deep.QuietTactic
import Derived.BigQuiet
import Derived.Outline
import Derived.OwnWalk
import Derived.Deep.RegionHeld3
import Derived.WalkSpells
import Derived.Maps.OwnSet
import Derived.Maps.OwnOps
import Derived.Deep.RegionHeldLaw
import Derived.Lib.ItoaNum
import Derived.Laws.IdiomStrings
import Derived.Lib.SmallJoins
import Derived.Deep.Slices
import Derived.Deep.Fields
import Derived.Laws.AppendOwn
import Derived.RangeFuncNested
import Derived.RangeFuncLeaves
import Derived.RangeFuncCalls
import Derived.Laws.CopyOwn
import Derived.Deep.Cut
import Derived.Deep.RegionLaw
import Derived.LoopIn
import Derived.TacticsIn
import Derived.RegionIn
import Derived.Shelf.SlicesE.Reverse
import Derived.Test.YtdbgcbkmcbgdiaaGreatLsr
import Derived.OwnWalkIn
import Derived.Sort.Grow
import Derived.Deep.WholeRow
import Derived.WalkMore
import Derived.Deep.MidRow
import Derived.Great.BuildSlice
import Derived.Deep.CutRange
import Derived.Deep.RegionWith
import Derived.Laws.StructEq
import Derived.StillTailTactics
import Derived.IntWalk
import Derived.Laws.EntriesVeiled
import Derived.Laws.ResultCell
import Derived.WideShapes
import Derived.Lib.MinMax
namespace Go.Proofs.YtdbgcbkmcbgdiaaGreat.law
open Go.ChangeShapes Go.WideShapes Go.ChangeAt Go.RowKit
set_option linter.unusedVariables false

section
variable {H : Type} {enc : TypeId × Value → H} {P : Program}
theorem trodAll_stays (hl : laidOutB P = true) {W W' : World} {sp : Nat → Bool} : ∀ {ts : List TypeId} {vs : List Value} {ds : List (DataW H)} {ps : List MemPlace},
    (ts.all fun t => P.readableRec t && decide (t < P.types.size)) = true → DataW.TrodAll enc P W 0 (fun _ => true) true ts vs ds ps → (∀ x ∈ ps, W.sameAt W' x) → (∀ x ∈ ps, sp x.block = true) →
    DataW.TrodAll enc P W' 0 sp true ts vs ds ps
  | [], [], [], _, _, h, _, _ => h
  | [], _ :: _, _, _, _, h, _, _ => h.elim
  | [], [], _ :: _, _, _, h, _, _ => h.elim
  | _ :: _, [], _, _, _, h, _, _ => h.elim
  | _ :: _, _ :: _, [], _, _, h, _, _ => h.elim
  | t :: ts, v :: vs, d :: ds, ps, ht, h, hs, hp => by
    obtain ⟨p, q, h1, h2, rfl⟩ := h
    simp only [List.all_cons, Bool.and_eq_true, decide_eq_true_eq] at ht
    exact ⟨p, q, WideElems.Trod_stays hl ht.1.1 ht.1.2 h1 (fun x hx => hs x (List.mem_append_left _ hx)) (fun x hx => hp x (List.mem_append_left _ hx)),
      trodAll_stays hl (by simpa using ht.2) h2 (fun x hx => hs x (List.mem_append_right _ hx)) (fun x hx => hp x (List.mem_append_right _ hx)), rfl⟩

/-- the last step of every law -/
theorem law_post {f : Func} {s : ChangeSpec} {apart fresh handsOn again : Bool} {W W' : World} {args : Array Value} {ds gs : List (DataW H)} {before : List MemPlace} {tb : TypeId}
    (hW : DataW.Whole enc P f.params.toList s.vars apart W args.toList ds gs before) (hb : Below W.heap.size W W') (hl : laidOutB P = true)
    (hts : (f.params.toList.all fun t => P.readableRec t && decide (t < P.types.size)) = true) (hv : s.vars = []) (hfn : s.fn H (ds ++ gs) = { results := [.lit (.bool true)], args := ds })
    (hr : f.resultTypes = #[tb]) (htb : P.underlying tb = some .bool) : s.post enc P f apart fresh handsOn again W args (.bool true) W' := by
  have hlt : ∀ x ∈ before, x.block < W.heap.size := fun x hx => hW.lt x hx
  have hW3 := hW
  have hW2 := hW
  obtain ⟨p, q, hA, hV, rfl, _, _⟩ := hW
  rw [hv] at hV
  obtain ⟨rfl, rfl⟩ := trodVars_none hV
  simp only [List.append_nil] at hW2 hW3 hlt
  obtain ⟨_, _, _, _, _, hz, hn⟩ := hW2
  have hargs : ∀ sp : Nat → Bool, (∀ x ∈ p, sp x.block = true) → DataW.TrodAll enc P W' 0 sp true f.params.toList args.toList (s.fn H (ds ++ [])).args p := by
    intro sp hsp
    rw [hfn]
    exact trodAll_stays hl hts hA (fun x hx => hb.same (hlt x hx)) hsp
  have hres : ∀ (b : Nat) (sp : Nat → Bool) (hd : Bool), DataW.TrodAll enc P W' b sp hd f.resultTypes.toList ((Value.bool true).resultList f.resultTypes.size) (s.fn H (ds ++ [])).results [] := by
    intro b sp hd
    rw [hfn, hr]
    exact trodAll_cons_mk (shut_bool htb _) trodAll_mk0
  have hvs : ∀ sp : Nat → Bool, DataW.TrodVars enc P W' sp s.vars (s.fn H (ds ++ [])).vars [] := by
    intro sp
    rw [hfn, hv]
    rfl
  refine ⟨ds, [], p, [], p, [], hW3, hres _ _ _, hargs _ (fun x hx => by simpa using hlt x hx), hvs _, World.keptBut_mono (fun x hx => ⟨hx, Or.inr (by simpa using hx)⟩) (hb.frame (· ∈ p)), fun _ => ?_⟩
  refine ⟨ok_one hr rfl (okWide_bool_mk htb _), _, _, p, ⟨p, [], by simpa using trodAll_append (hargs _ (fun _ _ => rfl)) (hres _ _ _), hvs _, by simp, ?_, ?_⟩, fun x hx _ => by simpa using hx⟩
  · intro b off hp
    rw [hb.frozen (hlt _ hp)]
    exact hz b off (by simpa using hp)
  · intro ha
    simpa using hn ha
end
end Go.Proofs.YtdbgcbkmcbgdiaaGreat.law

namespace Go.Proofs.YtdbgcbkmcbgdiaaGreat.draw
open Go.RowKit
set_option linter.unusedVariables false

/-- a slice of bytes that reads as bytes, of len elements, below block B -/
def CodeAt (w : World) (cv : Value) (len B : Nat) : Prop :=
  (∃ p cap, cv = .slice p 0 cap ∧ len = 0) ∨ ∃ cb co cap, cv = .slice (some ⟨cb, co, none⟩) len cap ∧ cb < B ∧ len ≤ 140737488351232 ∧ ∀ k, k < len → ∃ x : Nat, x ≤ 255 ∧ w.cell? ⟨cb, co + k, none⟩ = some (.int .u8 x)

structure Src (w : World) (b : Nat) (cv : Value) (len : Nat) (i s : Int) : Prop where
  c0 : w.cell? ⟨b, 0, none⟩ = some cv
  c1 : w.cell? ⟨b, 1, none⟩ = some (.int .i64 i)
  c2 : w.cell? ⟨b, 2, none⟩ = some (.int .i64 s)
  f1 : w.frozen? ⟨b, 1, none⟩ = false
  f2 : w.frozen? ⟨b, 2, none⟩ = false
  i0 : 0 ≤ i
  i1 : i ≤ len
  s0 : 0 ≤ s
  s1 : s < 2147483647

/-- block b alone has been written -/
structure Only (b : Nat) (w w' : World) : Prop where
  os : w'.os = w.os
  tape : w'.tape = w.tape
  output : w'.output = w.output
  size : w.heap.size = w'.heap.size
  block : ∀ k, k ≠ b → w'.heap[k]? = w.heap[k]?

theorem Only.refl (b : Nat) (w : World) : Only b w w := ⟨rfl, rfl, rfl, rfl, fun _ _ => rfl⟩
theorem Only.trans {b : Nat} {w1 w2 w3 : World} (h : Only b w1 w2) (k : Only b w2 w3) : Only b w1 w3 :=
  ⟨k.os.trans h.os, k.tape.trans h.tape, k.output.trans h.output, h.size.trans k.size, fun i hi => (k.block i hi).trans (h.block i hi)⟩
theorem Only.drewN {b : Nat} {w1 w2 : World} (h : Only b w1 w2) (n : Nat) : Only b w1 (w2.drewN n) :=
  ⟨h.os, h.tape, h.output, h.size, h.block⟩
theorem Only.drew {b : Nat} {w1 w2 : World} (h : Only b w1 w2) : Only b w1 w2.drew :=
  ⟨h.os, h.tape, h.output, h.size, h.block⟩
theorem Only.setCell {b : Nat} {w1 w2 : World} (h : Only b w1 w2) (o : Nat) (v : Value) : Only b w1 (w2.setCell ⟨b, o, none⟩ v) :=
  h.trans ⟨rfl, rfl, rfl, by simp [World.setCell], fun k hk => Below.heap_setCell _ _ _ _ hk⟩

def NextPost (w : World) (b : Nat) (cv : Value) (len : Nat) (n : Int) (e : Ending) (w' : World) : Prop :=
  ∃ v i s : Int, e = .returned (.int .i64 v) ∧ 0 ≤ v ∧ (v < n ∨ v = 0) ∧ Src w' b cv len i s ∧ Only b w w'

theorem next_small (w : World) (b : Nat) (cv : Value) (len : Nat) (i s n : Int) (h : Src w b cv len i s) (hn : n ≤ 1) :
    Calls Tryz.prog 41 #[.pointer (some ⟨b, 0, none⟩), .int .i64 n] w (NextPost w b cv len n) := by
  go_enter Tryz.func41, Tryz.ntmps41
  go_wp2
  go_ret
  exact ⟨0, i, s, rfl, by omega, by omega, h, Only.refl _ _⟩

theorem step_bd {s : Int} (h0 : 0 ≤ s) (h1 : s < 2147483647) : 0 ≤ (s * 48271 + 7) % 2147483647 ∧ (s * 48271 + 7) % 2147483647 < 2147483647 := by omega

theorem src_step {w : World} {b : Nat} {cv : Value} {len : Nat} {i s : Int} (h : Src w b cv len i s) (s' : Int) (k0 : 0 ≤ s') (k1 : s' < 2147483647) : Src (w.setCell ⟨b, 2, none⟩ (.int .i64 s')) b cv len i s' := by
  obtain ⟨c0, c1, c2, f1, f2, i0, i1, s0, s1⟩ := h
  constructor <;> first | omega | assumption | go_simp
theorem src_tick {w : World} {b : Nat} {cv : Value} {len : Nat} {i s : Int} (h : Src w b cv len i s) (i' : Int) (k0 : 0 ≤ i') (k1 : i' ≤ len) : Src (w.setCell ⟨b, 1, none⟩ (.int .i64 i')) b cv len i' s := by
  obtain ⟨c0, c1, c2, f1, f2, i0, i1, s0, s1⟩ := h
  constructor <;> first | omega | assumption | go_simp
theorem src_drawn {w : World} {b : Nat} {cv : Value} {len : Nat} {i s : Int} (h : Src w b cv len i s) (n : Nat) : Src (w.drewN n) b cv len i s := by
  obtain ⟨c0, c1, c2, f1, f2, i0, i1, s0, s1⟩ := h
  exact ⟨c0, c1, c2, f1, f2, i0, i1, s0, s1⟩
theorem src_only {w w' : World} {b c : Nat} {cv : Value} {len : Nat} {i s : Int} (h : Src w b cv len i s) (g : ∀ a : Addr, a.block = b → w'.heap[a.block]? = w.heap[a.block]?) : Src w' b cv len i s := by
  obtain ⟨c0, c1, c2, f1, f2, i0, i1, s0, s1⟩ := h
  exact ⟨(World.cell?_of_block (g _ rfl)).trans c0, (World.cell?_of_block (g _ rfl)).trans c1, (World.cell?_of_block (g _ rfl)).trans c2, (World.frozen?_of_block (g _ rfl)).trans f1, (World.frozen?_of_block (g _ rfl)).trans f2, i0, i1, s0, s1⟩

theorem rem_bd {x n : Int} (h : 0 ≤ x) (hn : 1 < n) : 0 ≤ x % n ∧ x % n < n := ⟨Int.emod_nonneg _ (by omega), Int.emod_lt_of_pos _ (by omega)⟩

set_option maxHeartbeats 1000000 in
theorem next_big (w : World) (b B : Nat) (cv : Value) (len : Nat) (i s n : Int) (h : Src w b cv len i s) (hc : CodeAt w cv len B) (hB : B ≤ b) (hn : 1 < n) (hn2 : n ≤ 9223372036854775807) :
    Calls Tryz.prog 41 #[.pointer (some ⟨b, 0, none⟩), .int .i64 n] w (NextPost w b cv len n) := by
  have hS := Lib.hid h
  obtain ⟨c0, c1, c2, f1, f2, i0, i1, s0, s1⟩ := h
  have hstep := step_bd s0 s1
  rcases hc with ⟨p0, cap0, rfl, rfl⟩ | ⟨cb, co, cap, rfl, hcb, hlen, hcells⟩
  · go_enter Tryz.func41, Tryz.ntmps41
    go_wp2
    go_quiet (fail)
    go_wp2
    go_ret
    exact ⟨_, i, _, rfl, (rem_bd (by omega) hn).1, .inl (rem_bd (by omega) hn).2, src_drawn (src_step hS.out _ hstep.1 hstep.2) _, ((Only.refl _ _).setCell _ _).drewN _⟩
  · by_cases hlt : i < len
    · obtain ⟨k, rfl⟩ := Int.eq_ofNat_of_zero_le i0
      obtain ⟨x, hx, hcell⟩ := hcells k (by omega)
      clear hcells
      have hne : cb ≠ b := by omega
      have hne' : b ≠ cb := by omega
      by_cases h256 : n ≤ 256
      · by_cases hev : ((k : Int) + 1) % 2 = 0
        · go_enter Tryz.func41, Tryz.ntmps41
          go_wp2
          go_quiet (fail)
          go_wp2
          go_quiet (fail)
          go_wp2
          go_quiet (fail)
          go_wp2
          go_ret
          exact ⟨_, _, _, rfl, (rem_bd (by omega) hn).1, .inl (rem_bd (by omega) hn).2, src_drawn (src_tick (src_drawn (src_step hS.out _ hstep.1 hstep.2) _) _ (by omega) (by omega)) _, ((((Only.refl _ _).setCell _ _).drewN _).setCell _ _).drewN _⟩

        · go_enter Tryz.func41, Tryz.ntmps41
          go_wp2
          go_quiet (fail)
          go_wp2
          go_quiet (fail)
          go_wp2
          go_ret
          exact ⟨_, _, _, rfl, (rem_bd (by omega) hn).1, .inl (rem_bd (by omega) hn).2, (src_tick (src_drawn (src_step hS.out _ hstep.1 hstep.2) _) _ (by omega) (by omega)), (((Only.refl _ _).setCell _ _).drewN _).setCell _ _⟩

      · go_enter Tryz.func41, Tryz.ntmps41
        go_wp2
        go_quiet (fail)
        go_wp2
        go_quiet (fail)
        go_wp2
        go_ret
        exact ⟨_, _, _, rfl, (rem_bd (by omega) hn).1, .inl (rem_bd (by omega) hn).2, (src_tick (src_drawn (src_step hS.out _ hstep.1 hstep.2) _) _ (by omega) (by omega)), (((Only.refl _ _).setCell _ _).drewN _).setCell _ _⟩

    · go_enter Tryz.func41, Tryz.ntmps41
      go_wp2
      go_quiet (fail)
      go_wp2
      go_ret
      exact ⟨_, i, _, rfl, (rem_bd (by omega) hn).1, .inl (rem_bd (by omega) hn).2, src_drawn (src_step hS.out _ hstep.1 hstep.2) _, ((Only.refl _ _).setCell _ _).drewN _⟩

end Go.Proofs.YtdbgcbkmcbgdiaaGreat.draw

namespace Go.Proofs.YtdbgcbkmcbgdiaaGreat.draw
open Go.ChangeShapes Go.WideShapes Go.ChangeAt Go.RowKit
set_option linter.unusedVariables false
set_option maxRecDepth 100000

theorem cells5 : Tryz.prog.cellsOf 5 = 1 := by kernel_rfl

/-- what a []byte reads as -/
def CodeArg (W : World) (v : Value) : Prop := ∃ p len cap, v = .slice p len cap ∧ len ≤ 9223372036854775807 ∧ (len ≤ 4096 → CodeAt W v len W.heap.size)

theorem open_code {H : Type} {enc : TypeId × Value → H} {W : World} {v : Value} {d : DataW H} {p : List MemPlace} {b0 : Nat}
    (hval : Value.okWide Tryz.prog W .any b0 22 v) (h : DataW.Trod enc Tryz.prog W 0 (fun _ => true) true 22 v d p) : CodeArg W v := by
  obtain ⟨a0, len, cap, rfl⟩ := okWide_slice Tryz.underlying22 hval
  obtain ⟨fuel, hf⟩ := h
  rcases open_ints Tryz.underlying22 Tryz.underlying5 cells5 hf with ⟨hcs, hx⟩ | ⟨a, len', cap', zs, hcs, _, hl, hm, hz, hx, hcell, hwz⟩
  · simp [Value.cells] at hcs
    obtain ⟨rfl, rfl, rfl⟩ := hcs
    exact ⟨_, _, _, rfl, by omega, fun _ => .inl ⟨_, _, rfl, rfl⟩⟩
  · simp [Value.cells] at hcs
    obtain ⟨rfl, rfl, rfl⟩ := hcs
    simp only [if_true] at hz
    have hm' : cap ≤ 9223372036854775807 := by simpa [maxLen] using hm
    refine ⟨_, _, _, rfl, by omega, fun h4 => ?_⟩
    rcases Nat.eq_zero_or_pos len with rfl | hpos
    · exact .inl ⟨_, _, rfl, rfl⟩
    · have h0 := hcell 0 (by omega)
      have hsp : a.spot = none := by
        cases hs : a.spot with
        | none => rfl
        | some s =>
          simp only [World.cell?, Addr.add, hs, if_true, Option.isSome_some] at h0
          split at h0 <;> simp_all
      obtain ⟨cb, co, sp⟩ := a
      simp only at hsp
      subst hsp
      refine .inr ⟨cb, co, cap, rfl, World.block_lt_of_cell? W _ h0, by omega, fun k hk => ?_⟩
      have hk' := hcell k (by omega)
      rw [add_plain] at hk'
      have hmem : zs.getD k 0 ∈ zs := by
        have hkl : k < zs.length := by omega
        simp only [List.getD, List.getElem?_eq_getElem hkl, Option.getD_some]
        exact List.getElem_mem hkl
      have hwf := hwz _ hmem
      have hx : 0 ≤ zs.getD k 0 ∧ zs.getD k 0 ≤ 255 := by simpa [Lit.wf, IntKind.min, IntKind.max, IntKind.signed, IntKind.bits] using hwf
      refine ⟨(zs.getD k 0).toNat, by omega, ?_⟩
      rw [hk']
      congr 2
      omega

theorem big_any (w : World) (p : Option Addr) (len cap : Nat) : Calls Tryz.prog 9 #[.slice p len cap] w fun e w' => e = .returned (.bool (decide ((4096 : Int) < len))) ∧ w = w' := by
  go_enter Tryz.func9, Tryz.ntmps9
  go_wp2
  go_ret
  exact ⟨by simp, rfl⟩
end Go.Proofs.YtdbgcbkmcbgdiaaGreat.draw

namespace Go.Proofs.YtdbgcbkmcbgdiaaGreat.mem
open Go.RowKit

/-- block b alone has been written -/
structure Only (b : Nat) (w w' : World) : Prop where
  os : w'.os = w.os
  tape : w'.tape = w.tape
  output : w'.output = w.output
  size : w.heap.size = w'.heap.size
  block : ∀ k, k ≠ b → w'.heap[k]? = w.heap[k]?

theorem Only.refl (b : Nat) (w : World) : Only b w w := ⟨rfl, rfl, rfl, rfl, fun _ _ => rfl⟩
theorem Only.trans {b : Nat} {w1 w2 w3 : World} (h : Only b w1 w2) (k : Only b w2 w3) : Only b w1 w3 :=
  ⟨k.os.trans h.os, k.tape.trans h.tape, k.output.trans h.output, h.size.trans k.size, fun i hi => (k.block i hi).trans (h.block i hi)⟩
theorem Only.drewN {b : Nat} {w1 w2 : World} (h : Only b w1 w2) (n : Nat) : Only b w1 (w2.drewN n) := ⟨h.os, h.tape, h.output, h.size, h.block⟩
theorem Only.drew {b : Nat} {w1 w2 : World} (h : Only b w1 w2) : Only b w1 w2.drew := ⟨h.os, h.tape, h.output, h.size, h.block⟩
theorem Only.setCell {b : Nat} {w1 w2 : World} (h : Only b w1 w2) (o : Nat) (v : Value) : Only b w1 (w2.setCell ⟨b, o, none⟩ v) :=
  h.trans ⟨rfl, rfl, rfl, by simp [World.setCell], fun k hk => Below.heap_setCell _ _ _ _ hk⟩
theorem Only.below {b B : Nat} {w w' : World} (h : Only b w w') (hB : B ≤ b) : Below B w w' :=
  ⟨h.os, h.tape, h.output, by rw [h.size]; exact Nat.le_refl _, fun k hk => h.block k (by omega)⟩
theorem Only.cell {b : Nat} {w w' : World} (h : Only b w w') {a : Addr} (ha : a.block ≠ b) : w'.cell? a = w.cell? a := World.cell?_of_block (h.block _ ha)
theorem Only.frozen {b : Nat} {w w' : World} (h : Only b w w') {a : Addr} (ha : a.block ≠ b) : w'.frozen? a = w.frozen? a := World.frozen?_of_block (h.block _ ha)

/-- block b's first n cells read as the integers d 0, d 1, .. -/
structure Row (w : World) (b n : Nat) (d : Nat → Int) : Prop where
  cell : ∀ k, k < n → w.cell? ⟨b, k, none⟩ = some (.int .i64 (d k))
  free : ∀ k, k < n → w.frozen? ⟨b, k, none⟩ = false
def upd (d : Nat → Int) (i : Nat) (v : Int) : Nat → Int := fun k => if k = i then v else d k
theorem Row.set {w : World} {b n : Nat} {d : Nat → Int} (h : Row w b n d) (i : Nat) (v : Int) (hi : i < n) : Row (w.setCell ⟨b, i, none⟩ (.int .i64 v)) b n (upd d i v) := by
  constructor
  · intro k hk
    unfold upd
    by_cases e : k = i
    · subst e
      rw [if_pos rfl]
      exact World.cell?_setCell_same _ _ _ (h.cell k hk)
    · rw [if_neg e, World.cell?_setCell_other _ _ _ _ (by intro h; simp only [Addr.mk.injEq] at h; omega)]
      exact h.cell k hk
  · intro k hk
    have := h.free k hk
    go_simp
theorem Row.drew {w : World} {b n : Nat} {d : Nat → Int} (h : Row w b n d) : Row w.drew b n d := ⟨h.cell, h.free⟩
theorem Row.drewN {w : World} {b n : Nat} {d : Nat → Int} (h : Row w b n d) (m : Nat) : Row (w.drewN m) b n d := ⟨h.cell, h.free⟩
theorem Row.only {w w' : World} {b c n : Nat} {d : Nat → Int} (h : Row w b n d) (g : Only c w w') (hne : b ≠ c) : Row w' b n d :=
  ⟨fun k hk => (g.cell (a := ⟨b, k, none⟩) hne).trans (h.cell k hk), fun k hk => (g.frozen (a := ⟨b, k, none⟩) hne).trans (h.free k hk)⟩
theorem Row.congr {w : World} {b n : Nat} {d d' : Nat → Int} (h : Row w b n d) (e : ∀ k, k < n → d k = d' k) : Row w b n d' :=
  ⟨fun k hk => by rw [← e k hk]; exact h.cell k hk, h.free⟩
theorem Row.below {w w' : World} {b B n : Nat} {d : Nat → Int} (h : Row w b n d) (g : Below B w w') (hb : b < B) : Row w' b n d :=
  ⟨fun k hk => (g.cell (p := ⟨b, k, none⟩) hb).trans (h.cell k hk), fun k hk => (g.frozen (p := ⟨b, k, none⟩) hb).trans (h.free k hk)⟩
end Go.Proofs.YtdbgcbkmcbgdiaaGreat.mem

namespace Go.Proofs.YtdbgcbkmcbgdiaaGreat.mem
open Go.RowKit
set_option linter.unusedVariables false

/-- block b holds from place o on n elements of z cells: cell j of element i is c i j -/
structure At (w : World) (b o n z : Nat) (c : Nat → Nat → Value) : Prop where
  cell : ∀ i j, i < n → j < z → w.cell? ⟨b, o + i * z + j, none⟩ = some (c i j)
theorem At.congrW {w w' : World} {b o n z : Nat} {c : Nat → Nat → Value} (h : At w b o n z c) (e : w'.heap[b]? = w.heap[b]?) : At w' b o n z c :=
  ⟨fun i j hi hj => (World.cell?_of_block e).trans (h.cell i j hi hj)⟩
theorem At.congr {w : World} {b o n z : Nat} {c d : Nat → Nat → Value} (h : At w b o n z c) (e : ∀ i j, i < n → j < z → c i j = d i j) : At w b o n z d :=
  ⟨fun i j hi hj => by rw [← e i j hi hj]; exact h.cell i j hi hj⟩
theorem At.le {w : World} {b o n m z : Nat} {c : Nat → Nat → Value} (h : At w b o n z c) (hm : m ≤ n) : At w b o m z c := ⟨fun i j hi hj => h.cell i j (by omega) hj⟩
theorem At.below {w w' : World} {b o n z B : Nat} {c : Nat → Nat → Value} (h : At w b o n z c) (g : Below B w w') (hb : b < B) : At w' b o n z c := h.congrW (g.block b hb)
theorem At.only {w w' : World} {b o n z g : Nat} {c : Nat → Nat → Value} (h : At w b o n z c) (k : Only g w w') (hb : b ≠ g) : At w' b o n z c := h.congrW (k.block b hb)

/-- v is a slice of n elements of z cells, cell j of element i is c i j; its block, if it has elements, is one from lo on and below hi -/
structure Cs (w : World) (v : Value) (n z : Nat) (c : Nat → Nat → Value) (lo hi : Nat) : Prop where
  ex : ∃ p cap, v = .slice p n cap ∧ n ≤ cap ∧ cap ≤ 9223372036854775807 ∧ (n = 0 ∨ ∃ b o, p = some ⟨b, o, none⟩ ∧ lo ≤ b ∧ b < hi ∧ At w b o n z c)
theorem Cs.below {w w' : World} {v : Value} {n z : Nat} {c : Nat → Nat → Value} {lo hi B : Nat} (h : Cs w v n z c lo hi) (g : Below B w w') (hB : hi ≤ B) : Cs w' v n z c lo hi := by
  obtain ⟨p, cap, rfl, h0, h9, h | ⟨b, o, rfl, h1, h2, h3⟩⟩ := h
  · exact ⟨p, cap, rfl, h0, h9, .inl h⟩
  · exact ⟨_, cap, rfl, h0, h9, .inr ⟨b, o, rfl, h1, h2, h3.below g (by omega)⟩⟩
theorem Cs.only {w w' : World} {v : Value} {n z g : Nat} {c : Nat → Nat → Value} {lo hi : Nat} (h : Cs w v n z c lo hi) (k : Only g w w') (hc : g < lo ∨ hi ≤ g) : Cs w' v n z c lo hi := by
  obtain ⟨p, cap, rfl, h0, h9, h | ⟨b, o, rfl, h1, h2, h3⟩⟩ := h
  · exact ⟨p, cap, rfl, h0, h9, .inl h⟩
  · exact ⟨_, cap, rfl, h0, h9, .inr ⟨b, o, rfl, h1, h2, h3.only k (by omega)⟩⟩
theorem Cs.drewN {w : World} {v : Value} {n z : Nat} {c : Nat → Nat → Value} {lo hi : Nat} (h : Cs w v n z c lo hi) (m : Nat) : Cs (w.drewN m) v n z c lo hi := h.below (B := hi) ⟨rfl, rfl, rfl, Nat.le_refl _, fun _ _ => rfl⟩ (Nat.le_refl _)
theorem Cs.mono {w : World} {v : Value} {n z : Nat} {c : Nat → Nat → Value} {lo hi lo' hi' : Nat} (h : Cs w v n z c lo hi) (h1 : lo' ≤ lo) (h2 : hi ≤ hi') : Cs w v n z c lo' hi' := by
  obtain ⟨p, cap, rfl, h0, h9, h | ⟨b, o, rfl, g1, g2, g3⟩⟩ := h
  · exact ⟨p, cap, rfl, h0, h9, .inl h⟩
  · exact ⟨_, cap, rfl, h0, h9, .inr ⟨b, o, rfl, by omega, by omega, g3⟩⟩
theorem Cs.congr {w : World} {v : Value} {n z : Nat} {c d : Nat → Nat → Value} {lo hi : Nat} (h : Cs w v n z c lo hi) (e : ∀ i j, i < n → j < z → c i j = d i j) : Cs w v n z d lo hi := by
  obtain ⟨p, cap, rfl, h0, h9, h | ⟨b, o, rfl, g1, g2, g3⟩⟩ := h
  · exact ⟨p, cap, rfl, h0, h9, .inl h⟩
  · exact ⟨_, cap, rfl, h0, h9, .inr ⟨b, o, rfl, g1, g2, g3.congr e⟩⟩
theorem Cs.shape {w : World} {v : Value} {n z : Nat} {c : Nat → Nat → Value} {lo hi : Nat} (h : Cs w v n z c lo hi) : ∃ p cap, v = .slice p n cap := by
  obtain ⟨p, cap, rfl, _⟩ := h.ex
  exact ⟨p, cap, rfl⟩
theorem Cs.none_ (w : World) (z : Nat) (c : Nat → Nat → Value) (lo hi : Nat) : Cs w (.slice none 0 0) 0 z c lo hi := ⟨none, 0, rfl, Nat.le_refl _, by omega, .inl rfl⟩

/-- block b is the call's own: N cells, none frozen, cell k is d k -/
structure Ob (w : World) (b N : Nat) (d : Nat → Value) : Prop where
  ex : ∃ cur t, w.heap[b]? = some (.cells cur t (0, 0)) ∧ cur.size = N ∧ ∀ k, k < N → cur[k]? = some (d k)
theorem Ob.lt {w : World} {b N : Nat} {d : Nat → Value} (h : Ob w b N d) : b < w.heap.size := by
  obtain ⟨_, _, h1, _⟩ := h.ex
  exact (Array.getElem?_eq_some_iff.1 h1).1
theorem Ob.cell {w : World} {b N : Nat} {d : Nat → Value} (h : Ob w b N d) (k : Nat) (hk : k < N) : w.cell? ⟨b, k, none⟩ = some (d k) := by
  obtain ⟨cur, t, h1, h2, h3⟩ := h.ex
  simp only [World.cell?, h1]
  simpa using h3 k hk
theorem Ob.free {w : World} {b N : Nat} {d : Nat → Value} (h : Ob w b N d) (k : Nat) : w.frozen? ⟨b, k, none⟩ = false := by
  obtain ⟨cur, t, h1, h2, h3⟩ := h.ex
  simp [World.frozen?, h1]
theorem Ob.keep {w w' : World} {b N : Nat} {d : Nat → Value} (h : Ob w b N d) (e : w'.heap[b]? = w.heap[b]?) : Ob w' b N d := by
  obtain ⟨cur, t, h1, h2, h3⟩ := h.ex
  exact ⟨cur, t, by rw [e]; exact h1, h2, h3⟩
theorem Ob.below {w w' : World} {b N B : Nat} {d : Nat → Value} (h : Ob w b N d) (g : Below B w w') (hb : b < B) : Ob w' b N d := h.keep (g.block b hb)
theorem Ob.only {w w' : World} {b N g : Nat} {d : Nat → Value} (h : Ob w b N d) (k : Only g w w') (hb : b ≠ g) : Ob w' b N d := h.keep (k.block b hb)
theorem Ob.drewN {w : World} {b N : Nat} {d : Nat → Value} (h : Ob w b N d) (m : Nat) : Ob (w.drewN m) b N d := h.keep rfl
theorem Ob.congr {w : World} {b N : Nat} {d e : Nat → Value} (h : Ob w b N d) (he : ∀ k, k < N → d k = e k) : Ob w b N e := by
  obtain ⟨cur, t, h1, h2, h3⟩ := h.ex
  exact ⟨cur, t, h1, h2, fun k hk => by rw [← he k hk]; exact h3 k hk⟩
def updV (d : Nat → Value) (i : Nat) (v : Value) : Nat → Value := fun k => if k = i then v else d k
theorem Ob.set {w : World} {b N : Nat} {d : Nat → Value} (h : Ob w b N d) (i : Nat) (v : Value) (hi : i < N) : Ob (w.setCell ⟨b, i, none⟩ v) b N (updV d i v) := by
  obtain ⟨cur, t, h1, h2, h3⟩ := h.ex
  refine ⟨cur.setIfInBounds i v, t, ?_, by simpa using h2, fun k hk => ?_⟩
  · simp [World.setCell, Array.getElem?_modify, h1]
  · unfold updV
    by_cases e : k = i
    · subst e
      rw [if_pos rfl]
      simp [h2, hi]
    · rw [if_neg e, Array.getElem?_setIfInBounds, if_neg (by omega)]
      exact h3 k hk
theorem Ob.new (w : World) (cur : Array Value) (t : TypeId) (N : Nat) (d : Nat → Value) (h2 : cur.size = N) (h3 : ∀ k, k < N → cur[k]? = some (d k)) : Ob (w.alloc (.cells cur t)) w.heap.size N d :=
  ⟨cur, t, heap_alloc_new w _, h2, h3⟩
theorem Ob.at {w : World} {b N n z : Nat} {d : Nat → Value} {c : Nat → Nat → Value} (h : Ob w b N d) (hN : n * z ≤ N) (e : ∀ i j, i < n → j < z → d (i * z + j) = c i j) : At w b 0 n z c := by
  refine ⟨fun i j hi hj => ?_⟩
  have : (i + 1) * z ≤ n * z := Nat.mul_le_mul_right z (by omega)
  rw [Nat.add_mul, Nat.one_mul] at this
  rw [Nat.zero_add, ← e i j hi hj]
  exact h.cell _ (by omega)
theorem At.cs {w : World} {b o n z cap : Nat} {c : Nat → Nat → Value} (h : At w b o n z c) (hn : n ≤ cap) (h9 : cap ≤ 9223372036854775807) {lo hi : Nat} (h1 : lo ≤ b) (h2 : b < hi) : Cs w (.slice (some ⟨b, o, none⟩) n cap) n z c lo hi :=
  ⟨_, cap, rfl, hn, h9, .inr ⟨b, o, rfl, h1, h2, h⟩⟩

/-- block b is the call's own row: n elements of z cells at its start, cell j of element i is c i j -/
structure Rw (w : World) (b n z : Nat) (c : Nat → Nat → Value) : Prop where
  ex : ∃ M d, n * z ≤ M ∧ Ob w b M d ∧ ∀ i j, i < n → j < z → d (i * z + j) = c i j
theorem ij_lt {i j n z : Nat} (hi : i < n) (hj : j < z) : i * z + j < n * z := by
  have : (i + 1) * z ≤ n * z := Nat.mul_le_mul_right z (by omega)
  rw [Nat.add_mul, Nat.one_mul] at this
  omega
theorem ij_inj {i j k l z : Nat} (hj : j < z) (hl : l < z) (h : i * z + j = k * z + l) : i = k ∧ j = l := by
  have hz : 0 < z := by omega
  have h1 : (i * z + j) / z = i := by rw [Nat.mul_comm, Nat.mul_add_div hz, Nat.div_eq_of_lt hj, Nat.add_zero]
  have h2 : (k * z + l) / z = k := by rw [Nat.mul_comm, Nat.mul_add_div hz, Nat.div_eq_of_lt hl, Nat.add_zero]
  have e : i = k := by rw [← h1, h, h2]
  subst e
  exact ⟨rfl, by omega⟩
theorem Rw.lt {w : World} {b n z : Nat} {c : Nat → Nat → Value} (h : Rw w b n z c) : b < w.heap.size := by
  obtain ⟨M, d, hM, h, _⟩ := h.ex
  exact h.lt
theorem Rw.cell {w : World} {b n z : Nat} {c : Nat → Nat → Value} (h : Rw w b n z c) (i j : Nat) (hi : i < n) (hj : j < z) : w.cell? ⟨b, i * z + j, none⟩ = some (c i j) := by
  obtain ⟨M, d, hM, h, e⟩ := h.ex
  rw [← e i j hi hj]
  exact h.cell _ (Nat.lt_of_lt_of_le (ij_lt hi hj) hM)
theorem Rw.free {w : World} {b n z : Nat} {c : Nat → Nat → Value} (h : Rw w b n z c) (k : Nat) : w.frozen? ⟨b, k, none⟩ = false := by
  obtain ⟨M, d, hM, h, _⟩ := h.ex
  exact h.free k
theorem Rw.keep {w w' : World} {b n z : Nat} {c : Nat → Nat → Value} (h : Rw w b n z c) (e : w'.heap[b]? = w.heap[b]?) : Rw w' b n z c := by
  obtain ⟨M, d, hM, h, g⟩ := h.ex
  exact ⟨M, d, hM, h.keep e, g⟩
theorem Rw.below {w w' : World} {b n z B : Nat} {c : Nat → Nat → Value} (h : Rw w b n z c) (g : Below B w w') (hb : b < B) : Rw w' b n z c := h.keep (g.block b hb)
theorem Rw.only {w w' : World} {b n z g : Nat} {c : Nat → Nat → Value} (h : Rw w b n z c) (k : Only g w w') (hb : b ≠ g) : Rw w' b n z c := h.keep (k.block b hb)
theorem Rw.drewN {w : World} {b n z : Nat} {c : Nat → Nat → Value} (h : Rw w b n z c) (m : Nat) : Rw (w.drewN m) b n z c := h.keep rfl
theorem Rw.congr {w : World} {b n z : Nat} {c c' : Nat → Nat → Value} (h : Rw w b n z c) (e : ∀ i j, i < n → j < z → c i j = c' i j) : Rw w b n z c' := by
  obtain ⟨M, d, hM, h, g⟩ := h.ex
  exact ⟨M, d, hM, h, fun i j hi hj => (g i j hi hj).trans (e i j hi hj)⟩
def updC (c : Nat → Nat → Value) (i j : Nat) (v : Value) : Nat → Nat → Value := fun k l => if k = i ∧ l = j then v else c k l
theorem Rw.set {w : World} {b n z : Nat} {c : Nat → Nat → Value} (h : Rw w b n z c) (i j : Nat) (v : Value) (hi : i < n) (hj : j < z) : Rw (w.setCell ⟨b, i * z + j, none⟩ v) b n z (updC c i j v) := by
  obtain ⟨M, d, hM, h, g⟩ := h.ex
  refine ⟨M, _, hM, h.set (i * z + j) v (Nat.lt_of_lt_of_le (ij_lt hi hj) hM), fun k l hk hl => ?_⟩
  unfold updV updC
  by_cases e : k = i ∧ l = j
  · obtain ⟨rfl, rfl⟩ := e
    simp
  · rw [if_neg e, if_neg, g k l hk hl]
    intro e2
    exact e (ij_inj hl hj e2)
theorem Rw.at {w : World} {b n z : Nat} {c : Nat → Nat → Value} (h : Rw w b n z c) : At w b 0 n z c := ⟨fun i j hi hj => by rw [Nat.zero_add]; exact h.cell i j hi hj⟩
theorem Rw.cs {w : World} {b n z cap : Nat} {c : Nat → Nat → Value} (h : Rw w b n z c) (hn : n ≤ cap) (h9 : cap ≤ 9223372036854775807) {lo hi : Nat} (h1 : lo ≤ b) (h2 : b < hi) : Cs w (.slice (some ⟨b, 0, none⟩) n cap) n z c lo hi := h.at.cs hn h9 h1 h2
theorem Rw.new (w : World) (cur : Array Value) (t : TypeId) (n z : Nat) (c : Nat → Nat → Value) (h2 : n * z ≤ cur.size) (h3 : ∀ i j, i < n → j < z → cur[i * z + j]? = some (c i j)) : Rw (w.alloc (.cells cur t)) w.heap.size n z c := by
  refine ⟨cur.size, fun k => (cur[k]?).getD default, h2, ⟨cur, t, heap_alloc_new w _, rfl, fun k hk => ?_⟩, fun i j hi hj => ?_⟩
  · rw [Array.getElem?_eq_getElem (by omega)]
    rfl
  · show (cur[i * z + j]?).getD default = c i j
    rw [h3 i j hi hj]
    rfl


theorem below_only {B b : Nat} {w0 w w' : World} (h : Below B w0 w) (g : Only b w w') (hb : B ≤ b) : Below B w0 w' := h.trans (g.below hb)
theorem below_dr {B : Nat} {w w' : World} (h : Below B w w') (n : Nat) : Below B w (w'.drewN n) := ⟨h.os, h.tape, h.output, h.size, h.block⟩
theorem below_self (B : Nat) (w : World) (n : Nat) : Below B w (w.drewN n) := ⟨rfl, rfl, rfl, Nat.le_refl _, fun _ _ => rfl⟩
theorem below_alloc {B : Nat} {w w' : World} (h : Below B w w') (hB : B ≤ w'.heap.size) (o : Obj) : Below B w (w'.alloc o) := h.alloc hB o
theorem below_set {B b : Nat} {w w' : World} (h : Below B w w') (hb : B ≤ b) (o : Nat) (v : Value) : Below B w (w'.setCell ⟨b, o, none⟩ v) :=
  h.trans (((Only.refl b w').setCell o v).below hb)
theorem below_new (w : World) (o : Obj) : Below w.heap.size w (w.alloc o) := (Below.refl _ _).alloc (Nat.le_refl _) o

theorem sz_set (w : World) (a : Addr) (v : Value) : (w.setCell a v).heap.size = w.heap.size := by simp [World.setCell]
/-- what X does not name is as it was -/
structure Upd (X : Nat → Prop) (w w' : World) : Prop where
  os : w'.os = w.os
  tape : w'.tape = w.tape
  output : w'.output = w.output
  size : w.heap.size ≤ w'.heap.size
  block : ∀ k, k < w.heap.size → ¬ X k → w'.heap[k]? = w.heap[k]?
theorem Upd.refl (X : Nat → Prop) (w : World) : Upd X w w := ⟨rfl, rfl, rfl, Nat.le_refl _, fun _ _ _ => rfl⟩
theorem Upd.trans {X : Nat → Prop} {w1 w2 w3 : World} (h : Upd X w1 w2) (k : Upd X w2 w3) : Upd X w1 w3 :=
  ⟨k.os.trans h.os, k.tape.trans h.tape, k.output.trans h.output, Nat.le_trans h.size k.size, fun i hi hx => (k.block i (Nat.lt_of_lt_of_le hi h.size) hx).trans (h.block i hi hx)⟩
theorem Upd.of_below {X : Nat → Prop} {w w' : World} (h : Below w.heap.size w w') : Upd X w w' := ⟨h.os, h.tape, h.output, h.size, fun k hk _ => h.block k hk⟩
theorem Upd.mono {X Y : Nat → Prop} {w w' : World} (h : Upd X w w') (hx : ∀ k, k < w.heap.size → X k → Y k) : Upd Y w w' := ⟨h.os, h.tape, h.output, h.size, fun k hk hy => h.block k hk (fun e => hy (hx k hk e))⟩
theorem Upd.of_only {b : Nat} {w w' : World} (h : Only b w w') : Upd (· = b) w w' := ⟨h.os, h.tape, h.output, Nat.le_of_eq h.size, fun k _ hx => h.block k hx⟩
theorem Upd.below {X : Nat → Prop} {B : Nat} {w w' : World} (h : Upd X w w') (hB : B ≤ w.heap.size) (hX : ∀ k, k < w.heap.size → X k → B ≤ k) : Below B w w' :=
  ⟨h.os, h.tape, h.output, h.size, fun k hk => h.block k (by omega) (fun e => by have := hX k (by omega) e; omega)⟩

/-- v is a slice of n elements; if it has elements, they are the own row b -/
structure OwnS (w : World) (v : Value) (n z : Nat) (c : Nat → Nat → Value) (b : Nat) : Prop where
  ex : ∃ p cap, v = .slice p n cap ∧ n ≤ cap ∧ cap ≤ 9223372036854775807 ∧ (n = 0 ∨ p = some ⟨b, 0, none⟩ ∧ Rw w b n z c)
theorem OwnS.keep {w w' : World} {v : Value} {n z b : Nat} {c : Nat → Nat → Value} (h : OwnS w v n z c b) (e : n = 0 ∨ w'.heap[b]? = w.heap[b]?) : OwnS w' v n z c b := by
  obtain ⟨p, cap, h1, h2, h3, h4⟩ := h.ex
  exact ⟨p, cap, h1, h2, h3, by
    rcases h4 with h4 | ⟨h4, h5⟩
    · exact .inl h4
    · rcases e with e | e
      · exact .inl e
      · exact .inr ⟨h4, h5.keep e⟩⟩
theorem OwnS.lt {w : World} {v : Value} {n z b : Nat} {c : Nat → Nat → Value} (h : OwnS w v n z c b) : n = 0 ∨ b < w.heap.size := by
  obtain ⟨p, cap, h1, h2, h3, h4 | ⟨h4, h5⟩⟩ := h.ex
  · exact .inl h4
  · exact .inr h5.lt
theorem OwnS.upd {X : Nat → Prop} {w w' : World} {v : Value} {n z b : Nat} {c : Nat → Nat → Value} (h : OwnS w v n z c b) (g : Upd X w w') (hx : n = 0 ∨ ¬ X b) : OwnS w' v n z c b :=
  h.keep (by
    rcases hx with e | e
    · exact .inl e
    · rcases h.lt with k | k
      · exact .inl k
      · exact .inr (g.block b k e))
theorem OwnS.below {w w' : World} {v : Value} {n z b B : Nat} {c : Nat → Nat → Value} (h : OwnS w v n z c b) (g : Below B w w') (hB : w.heap.size ≤ B) : OwnS w' v n z c b :=
  h.keep (by
    rcases h.lt with k | k
    · exact .inl k
    · exact .inr (g.block b (by omega)))
theorem OwnS.cs {w : World} {v : Value} {n z b : Nat} {c : Nat → Nat → Value} (h : OwnS w v n z c b) {lo hi : Nat} (h1 : lo ≤ b ∨ lo = 0) (h2 : w.heap.size ≤ hi) : Cs w v n z c lo hi := by
  obtain ⟨p, cap, rfl, g2, g3, g4 | ⟨rfl, g5⟩⟩ := h.ex
  · exact ⟨p, cap, rfl, g2, g3, .inl g4⟩
  · exact g5.cs g2 g3 (by omega) (by have := g5.lt; omega)
theorem OwnS.congr {w : World} {v : Value} {n z b : Nat} {c c' : Nat → Nat → Value} (h : OwnS w v n z c b) (e : ∀ i j, i < n → j < z → c i j = c' i j) : OwnS w v n z c' b := by
  obtain ⟨p, cap, h1, h2, h3, h4 | ⟨h4, h5⟩⟩ := h.ex
  · exact ⟨p, cap, h1, h2, h3, .inl h4⟩
  · exact ⟨p, cap, h1, h2, h3, .inr ⟨h4, h5.congr e⟩⟩
theorem OwnS.none_ (w : World) (z : Nat) (c : Nat → Nat → Value) (b : Nat) : OwnS w (.slice none 0 0) 0 z c b := ⟨none, 0, rfl, Nat.le_refl _, by omega, .inl rfl⟩
theorem Rw.own {w : World} {b n z cap : Nat} {c : Nat → Nat → Value} (h : Rw w b n z c) (hn : n ≤ cap) (h9 : cap ≤ 9223372036854775807) : OwnS w (.slice (some ⟨b, 0, none⟩) n cap) n z c b :=
  ⟨_, cap, rfl, hn, h9, .inr ⟨rfl, h⟩⟩
theorem Cs.upd {X : Nat → Prop} {w w' : World} {v : Value} {n z : Nat} {c : Nat → Nat → Value} {lo hi : Nat} (h : Cs w v n z c lo hi) (g : Upd X w w') (hi1 : hi ≤ w.heap.size) (hx : ∀ k, lo ≤ k → k < hi → ¬ X k) : Cs w' v n z c lo hi := by
  obtain ⟨p, cap, rfl, h0, h9, h | ⟨b, o, rfl, h1, h2, h3⟩⟩ := h
  · exact ⟨p, cap, rfl, h0, h9, .inl h⟩
  · exact ⟨_, cap, rfl, h0, h9, .inr ⟨b, o, rfl, h1, h2, h3.congrW (g.block b (by omega) (hx b h1 h2))⟩⟩
end Go.Proofs.YtdbgcbkmcbgdiaaGreat.mem

namespace Go.Proofs.YtdbgcbkmcbgdiaaGreat.mem
open Go.RowKit
set_option linter.unusedVariables false

def intC (d : Nat → Int) (i _j : Nat) : Value := .int .i64 (d i)
theorem At.int {w : World} {b o n : Nat} {d : Nat → Int} (h : At w b o n 1 (intC d)) (k : Nat) (hk : k < n) : w.cell? ⟨b, o + k, none⟩ = some (.int .i64 (d k)) := by
  have := h.cell k 0 hk (by omega)
  simpa [intC] using this
theorem Rw.int {w : World} {b n : Nat} {c : Nat → Nat → Value} (h : Rw w b n 1 c) (k : Nat) (hk : k < n) : w.cell? ⟨b, k, none⟩ = some (c k 0) := by
  have := h.cell k 0 hk (by omega)
  simpa using this
end Go.Proofs.YtdbgcbkmcbgdiaaGreat.mem

namespace Go.Proofs.YtdbgcbkmcbgdiaaGreat.mem
open Go.RowKit
set_option linter.unusedVariables false

theorem likeInts_any (w : World) (v u : Value) (n : Nat) (d : Nat → Int) (lo hi lo' hi' : Nat) (h : Cs w v n 1 (intC d) lo hi) (g : Cs w u n 1 (intC d) lo' hi') :
    Calls Tryz.prog 13 #[v, u] w fun e w' => e = .returned (.bool true) ∧ Below w.heap.size w w' := by
  obtain ⟨p, cap, rfl, _, _, hc⟩ := h
  obtain ⟨p', cap', rfl, _, _, hc'⟩ := g
  have HC := Lib.hid hc
  have HC' := Lib.hid hc'
  clear hc hc'
  have hbb : ((n : Int) != n) = false := by simp
  go_enter Tryz.func13, Tryz.ntmps13
  go_wp2_with fail
  go_loopw [5] (fun i wr => ∃ k m : Nat, i = .int .i64 k ∧ k ≤ n ∧ wr = w.drewN m) (fun i _ => n - (intOf i).toNat)
  case atStart => exact ⟨0, 0, rfl, Nat.zero_le _, rfl⟩
  case round =>
    obtain ⟨k, m, rfl, hk, hw⟩ := hrel
    have HWR := Lib.hid hw
    by_cases hlt : k < n
    · rcases HC.out with h0 | ⟨b, o, rfl, g1, g2, g3⟩
      · omega
      rcases HC'.out with h0 | ⟨b', o', rfl, g1', g2', g3'⟩
      · omega
      have c1 : wr.cell? ⟨b, o + k, none⟩ = some (.int .i64 (d k)) := by rw [hw]; exact g3.int k hlt
      have c2 : wr.cell? ⟨b', o' + k, none⟩ = some (.int .i64 (d k)) := by rw [hw]; exact g3'.int k hlt
      have hkn : (k : Int) < (n : Int) := by omega
      have hdd : (d k != d k) = false := by simp
      clear hw g3 g3'
      go_wp2_with fail
      go_quiet (fail)
      go_wp2_with fail
      go_roundw
      case rel => exact ⟨k + 1, m + nq, by go_num, hlt, by rw [HWR.out]; exact (World.drewN_drewN _ _ _)⟩
      case measure => simp [intOf]; omega
    · clear hw
      go_wp2_with fail
      go_ret
      exact ⟨rfl, by rw [HWR.out]; exact below_self _ _ _⟩

end Go.Proofs.YtdbgcbkmcbgdiaaGreat.mem

namespace Go.Proofs.YtdbgcbkmcbgdiaaGreat.mem
open Go.RowKit
set_option linter.unusedVariables false

structure Nod where
  s : ByteArray
  lo : Int
  hi : Int
structure Pip where
  f : Int
  t : Int
  k : Int
  v : Int
  l : Int
/-- the cells of nodes, of pipes -/
def nodC (N : Nat → Nod) (i j : Nat) : Value := match j with
  | 0 => .string (N i).s
  | 1 => .int .i64 (N i).lo
  | _ => .int .i64 (N i).hi
def pipC (P : Nat → Pip) (i j : Nat) : Value := match j with
  | 0 => .int .i64 (P i).f
  | 1 => .int .i64 (P i).t
  | 2 => .int .i64 (P i).k
  | 3 => .int .i64 (P i).v
  | _ => .int .i64 (P i).l

theorem info_make_node : (Tryz.prog.info? 142).map (fun i => (i.zero, i.size, i.bytes)) = some (some (.agg #[.string ⟨#[]⟩, .int .i64 0, .int .i64 0]), 3, 32) := by kernel_rfl
theorem info_make_pipe : (Tryz.prog.info? 121).map (fun i => (i.zero, i.size, i.bytes)) = some (some (.agg #[.int .i64 0, .int .i64 0, .int .i64 0, .int .i64 0, .int .i64 0]), 5, 40) := by kernel_rfl
end Go.Proofs.YtdbgcbkmcbgdiaaGreat.mem

namespace Go.Proofs.YtdbgcbkmcbgdiaaGreat.mem
open Go.RowKit
set_option linter.unusedVariables false

/-- what reads as a network: n nodes N, m pipes P, in blocks from lo on and below hi -/
structure NetAt (w : World) (v : Value) (n : Nat) (N : Nat → Nod) (m : Nat) (P : Nat → Pip) (lo hi : Nat) : Prop where
  ex : ∃ v0 v1, v = .agg #[v0, v1] ∧ Cs w v0 n 3 (nodC N) lo hi ∧ Cs w v1 m 5 (pipC P) lo hi
theorem NetAt.below {w w' : World} {v : Value} {n m : Nat} {N : Nat → Nod} {P : Nat → Pip} {lo hi B : Nat} (h : NetAt w v n N m P lo hi) (g : Below B w w') (hB : hi ≤ B) : NetAt w' v n N m P lo hi := by
  obtain ⟨v0, v1, rfl, h0, h1⟩ := h.ex
  exact ⟨v0, v1, rfl, h0.below g hB, h1.below g hB⟩
theorem NetAt.mono {w : World} {v : Value} {n m : Nat} {N : Nat → Nod} {P : Nat → Pip} {lo hi lo' hi' : Nat} (h : NetAt w v n N m P lo hi) (h1 : lo' ≤ lo) (h2 : hi ≤ hi') : NetAt w v n N m P lo' hi' := by
  obtain ⟨v0, v1, rfl, g0, g1⟩ := h.ex
  exact ⟨v0, v1, rfl, g0.mono h1 h2, g1.mono h1 h2⟩
theorem NetAt.upd {X : Nat → Prop} {w w' : World} {v : Value} {n m : Nat} {N : Nat → Nod} {P : Nat → Pip} {lo hi : Nat} (h : NetAt w v n N m P lo hi) (g : Upd X w w') (hi1 : hi ≤ w.heap.size) (hx : ∀ k, lo ≤ k → k < hi → ¬ X k) : NetAt w' v n N m P lo hi := by
  obtain ⟨v0, v1, rfl, g0, g1⟩ := h.ex
  exact ⟨v0, v1, rfl, g0.upd g hi1 hx, g1.upd g hi1 hx⟩
/-- a network of the call's own, its rows in blocks b1 and b2 -/
structure NetOwn (w : World) (v : Value) (n : Nat) (N : Nat → Nod) (m : Nat) (P : Nat → Pip) (b1 b2 : Nat) : Prop where
  ex : ∃ v0 v1, v = .agg #[v0, v1] ∧ OwnS w v0 n 3 (nodC N) b1 ∧ OwnS w v1 m 5 (pipC P) b2 ∧ (n = 0 ∨ m = 0 ∨ b1 ≠ b2)
theorem NetOwn.upd {X : Nat → Prop} {w w' : World} {v : Value} {n m b1 b2 : Nat} {N : Nat → Nod} {P : Nat → Pip} (h : NetOwn w v n N m P b1 b2) (g : Upd X w w') (h1 : n = 0 ∨ ¬ X b1) (h2 : m = 0 ∨ ¬ X b2) : NetOwn w' v n N m P b1 b2 := by
  obtain ⟨v0, v1, rfl, g0, g1, g2⟩ := h.ex
  exact ⟨v0, v1, rfl, g0.upd g h1, g1.upd g h2, g2⟩
theorem NetOwn.below {w w' : World} {v : Value} {n m b1 b2 B : Nat} {N : Nat → Nod} {P : Nat → Pip} (h : NetOwn w v n N m P b1 b2) (g : Below B w w') (hB : w.heap.size ≤ B) : NetOwn w' v n N m P b1 b2 := by
  obtain ⟨v0, v1, rfl, g0, g1, g2⟩ := h.ex
  exact ⟨v0, v1, rfl, g0.below g hB, g1.below g hB, g2⟩
theorem NetOwn.net {w : World} {v : Value} {n m b1 b2 : Nat} {N : Nat → Nod} {P : Nat → Pip} (h : NetOwn w v n N m P b1 b2) : NetAt w v n N m P 0 w.heap.size := by
  obtain ⟨v0, v1, rfl, g0, g1, g2⟩ := h.ex
  exact ⟨v0, v1, rfl, g0.cs (.inr rfl) (Nat.le_refl _), g1.cs (.inr rfl) (Nat.le_refl _)⟩
theorem NetOwn.lt1 {w : World} {v : Value} {n m b1 b2 : Nat} {N : Nat → Nod} {P : Nat → Pip} (h : NetOwn w v n N m P b1 b2) : n = 0 ∨ b1 < w.heap.size := by
  obtain ⟨v0, v1, rfl, g0, g1, g2⟩ := h.ex
  exact g0.lt
theorem NetOwn.lt2 {w : World} {v : Value} {n m b1 b2 : Nat} {N : Nat → Nod} {P : Nat → Pip} (h : NetOwn w v n N m P b1 b2) : m = 0 ∨ b2 < w.heap.size := by
  obtain ⟨v0, v1, rfl, g0, g1, g2⟩ := h.ex
  exact g1.lt
theorem NetOwn.none_ (w : World) (N : Nat → Nod) (P : Nat → Pip) (b1 b2 : Nat) : NetOwn w (.agg #[.slice none 0 0, .slice none 0 0]) 0 N 0 P b1 b2 := ⟨_, _, rfl, OwnS.none_ _ _ _ _, OwnS.none_ _ _ _ _, .inl rfl⟩

end Go.Proofs.YtdbgcbkmcbgdiaaGreat.mem

namespace Go.Proofs.YtdbgcbkmcbgdiaaGreat.mem
open Go.RowKit
set_option linter.unusedVariables false

def inR (x lo hi : Int) : Bool := decide (lo ≤ x) && decide (x ≤ hi)
theorem inR_iff {x lo hi : Int} : inR x lo hi = true ↔ lo ≤ x ∧ x ≤ hi := by unfold inR; simp
def chr (x : UInt8) : Bool := (decide (97 ≤ x.toNat) && decide (x.toNat ≤ 122)) || (decide (48 ≤ x.toNat) && decide (x.toNat ≤ 57))
theorem chr_iff {x : UInt8} : chr x = true ↔ (97 ≤ x.toNat ∧ x.toNat ≤ 122) ∨ (48 ≤ x.toNat ∧ x.toNat ≤ 57) := by unfold chr; simp
theorem chr_no {x : UInt8} : chr x = false ↔ ¬ ((97 ≤ x.toNat ∧ x.toNat ≤ 122) ∨ (48 ≤ x.toNat ∧ x.toNat ≤ 57)) := by rw [← chr_iff]; simp
def nameB (s : ByteArray) : Bool := decide (1 ≤ s.size) && decide (s.size ≤ 8) && s.data.toList.all chr
def nodB (x : Nod) : Bool := nameB x.s && decide (0 ≤ x.lo) && decide (x.lo ≤ x.hi) && decide (x.hi ≤ 100000000)
def pipB (n : Int) (p : Pip) : Bool := inR p.f 0 (n - 1) && inR p.t 0 (n - 1) && (p.f != p.t) && inR p.k 1 1000 && inR p.v 0 1000000 && inR p.l 1 30000

theorem inRange_any (x lo hi : Int) (w : World) : Calls Tryz.prog 109 #[.int .i64 x, .int .i64 lo, .int .i64 hi] w fun e w' => e = .returned (.bool (inR x lo hi)) ∧ w = w' := by
  unfold inR
  by_cases h1 : lo ≤ x
  all_goals
    go_enter Tryz.func109, Tryz.ntmps109
    go_wp2
    go_ret
    exact ⟨by simp [h1] <;> omega, rfl⟩
theorem l01In_any (x lo hi : Int) (w : World) : Calls Tryz.prog 117 #[.int .i64 x, .int .i64 lo, .int .i64 hi] w fun e w' => e = .returned (.bool (inR x lo hi)) ∧ w = w' := by
  unfold inR
  by_cases h1 : lo ≤ x
  all_goals
    go_enter Tryz.func117, Tryz.ntmps117
    go_wp2
    go_ret
    exact ⟨by simp [h1] <;> omega, rfl⟩

theorem isNameByte_any (x : UInt8) (w : World) : Calls Tryz.prog 195 #[.int .u8 x.toNat] w fun e w' => e = .returned (.bool (chr x)) ∧ w = w' := by
  unfold chr
  by_cases h1 : 97 ≤ x.toNat <;> by_cases h2 : x.toNat ≤ 122 <;> by_cases h3 : 48 ≤ x.toNat <;> by_cases h4 : x.toNat ≤ 57
  all_goals
    try omega
  all_goals
    have g1 := h1
    have g2 := h2
    have g3 := h3
    have g4 := h4
    simp only [Nat.not_le] at g1 g2 g3 g4
    go_enter Tryz.func195, Tryz.ntmps195
    go_wp2
    go_ret
    exact ⟨by simp [h1, h2, h3, h4] <;> omega, rfl⟩

theorem getElem_all {s : ByteArray} {k : Nat} (h : k < s.size) : s.data.toList[k]? = some s[k] := by
  rw [Array.getElem?_toList]
  exact Array.getElem?_eq_getElem (by simpa using h)
theorem all_of {s : ByteArray} (h : ∀ k (hk : k < s.size), chr s[k] = true) : s.data.toList.all chr = true := by
  rw [List.all_eq_true]
  intro x hx
  obtain ⟨k, hk, rfl⟩ := List.getElem_of_mem hx
  exact h k (by simpa using hk)
theorem all_no {s : ByteArray} {k : Nat} (hk : k < s.size) (h : chr s[k] = false) : s.data.toList.all chr = false := by
  rw [List.all_eq_false]
  exact ⟨s[k], List.mem_of_getElem? (getElem_all hk), by simp [h]⟩

theorem ret_b {a b : Bool} (h : a = b) : Ending.returned (.bool a) = .returned (.bool b) := by rw [h]
theorem name_all {s : ByteArray} (h : ∀ k (hk : k < s.size), chr s[k] = true) (h1 : 1 ≤ s.size) : nameB s = decide ((s.size : Int) ≤ 8) := by
  unfold nameB
  rw [all_of h, decide_eq_true h1]
  by_cases h8 : s.size ≤ 8
  · rw [decide_eq_true h8, decide_eq_true (by omega : (s.size : Int) ≤ 8)]; rfl
  · rw [decide_eq_false h8, decide_eq_false (by omega : ¬ (s.size : Int) ≤ 8)]; rfl
theorem name_yes {s : ByteArray} (h : ∀ k (hk : k < s.size), chr s[k] = true) (h1 : 1 ≤ s.size) (h8 : s.size ≤ 8) : nameB s = true := by
  rw [name_all h h1]
  simp
  omega
theorem name_chr {s : ByteArray} {k : Nat} (hk : k < s.size) (h : chr s[k] = false) : nameB s = false := by
  unfold nameB
  rw [all_no hk h]
  simp
theorem name_size {s : ByteArray} (h : s.size < 1 ∨ 8 < s.size) : nameB s = false := by
  unfold nameB
  rcases h with h | h
  · rw [decide_eq_false (by omega : ¬ (1 ≤ s.size))]; rfl
  · rw [decide_eq_false (by omega : ¬ (s.size ≤ 8))]; simp

set_option maxHeartbeats 1000000 in
theorem isName_any (s : ByteArray) (w : World) (hs : s.size ≤ 9223372036854775807) : Calls Tryz.prog 181 #[.string s] w fun e w' => e = .returned (.bool (nameB s)) ∧ w = w' := by
  by_cases h0 : s.size = 0
  · have HN := Lib.hid (name_size (s := s) (.inl (by omega)))
    have h0' : ((s.size : Int) == 0) = true := by simp [h0]
    clear h0
    go_enter Tryz.func181, Tryz.ntmps181
    go_wp2
    go_ret
    exact ⟨ret_b HN.out.symm, rfl⟩
  have h0' : ((s.size : Int) == 0) = false := beq_eq_false_iff_ne.2 (by omega)
  by_cases h8 : 8 < s.size
  · have HN := Lib.hid (name_size (s := s) (.inr h8))
    have h8' : (8 : Int) < s.size := by omega
    clear h0
    go_enter Tryz.func181, Tryz.ntmps181
    go_wp2
    go_ret
    exact ⟨ret_b HN.out.symm, rfl⟩
  have h8' : ¬ ((8 : Int) < s.size) := by omega
  have H0 := Lib.hid h0
  clear h0
  go_enter Tryz.func181, Tryz.ntmps181
  go_wp2
  go_loop [14, 3] (fun i j => ∃ k : Nat, i = .int .i64 k ∧ k ≤ s.size ∧ ∀ x (hx : x < s.size), x < k → chr s[x] = true) (fun i _ => s.size - (intOf i).toNat)
  case atStart => exact ⟨0, rfl, Nat.zero_le _, fun x hx h => by omega⟩
  case round =>
    obtain ⟨k, rfl, hk, hall⟩ := hrel
    have HA := Lib.hid hall
    clear hall
    by_cases hlt : k < s.size
    · cases hc : chr s[k]
      · have HC := Lib.hid (name_chr hlt hc)
        go_wp2_with (go_at_call 195; refine (isNameByte_any _ _).mono ?_; rintro e w' ⟨rfl, rfl⟩)
        go_ret
        exact ⟨ret_b HC.out.symm, rfl⟩
      · have HC2 := Lib.hid hc
        go_wp2_with (go_at_call 195; refine (isNameByte_any _ _).mono ?_; rintro e w' ⟨rfl, rfl⟩)
        go_round
        case rel =>
          refine ⟨k + 1, by go_num, hlt, fun x hx h => ?_⟩
          by_cases e : x = k
          · subst e; exact HC2.out
          · exact HA.out x hx (by omega)
        case measure => simp [intOf]; omega
    · have HB := Lib.hid (name_yes (fun x hx => HA.out x hx (by omega)) (by have := H0.out; omega) (by omega))
      clear HA
      go_wp2
      go_ret
      exact ⟨ret_b HB.out.symm, rfl⟩
set_option maxHeartbeats 1000000 in
theorem l02Name_any (s : ByteArray) (w : World) (hs : s.size ≤ 9223372036854775807) : Calls Tryz.prog 164 #[.string s] w fun e w' => e = .returned (.bool (nameB s)) ∧ w = w' := by
  go_enter Tryz.func164, Tryz.ntmps164
  go_wp2
  go_loop [3] (fun i => ∃ k : Nat, i = .int .i64 k ∧ k ≤ s.size ∧ ∀ x (hx : x < s.size), x < k → chr s[x] = true) (fun i => s.size - (intOf i).toNat)
  case atStart => exact ⟨0, rfl, Nat.zero_le _, fun x hx h => by omega⟩
  case round =>
    obtain ⟨k, rfl, hk, hall⟩ := hrel
    have HA := Lib.hid hall
    clear hall
    by_cases hlt : k < s.size
    · cases hc : chr s[k]
      · have HC := Lib.hid (name_chr hlt hc)
        have hc2 := chr_no.1 hc
        rcases (by omega : s[k].toNat < 48 ∨ 57 < s[k].toNat ∧ s[k].toNat < 97 ∨ 122 < s[k].toNat) with h1 | ⟨h1, h2⟩ | h1
        all_goals
          clear hc hc2
          have H1 := h1
          go_wp2
          go_ret
          exact ⟨ret_b HC.out.symm, rfl⟩
      · have HC2 := Lib.hid hc
        have hc2 := chr_iff.1 hc
        clear hc
        rcases hc2 with ⟨h1, h2⟩ | ⟨h1, h2⟩
        all_goals
          go_wp2
          go_round
          case rel =>
            refine ⟨k + 1, by go_num, hlt, fun x hx h => ?_⟩
            by_cases e : x = k
            · subst e; exact HC2.out
            · exact HA.out x hx (by omega)
          case measure => simp [intOf]; omega
    · by_cases h1 : 1 ≤ s.size
      · have HB := Lib.hid (name_all (fun x hx => HA.out x hx (by omega)) h1)
        clear HA
        go_wp2
        go_ret
        exact ⟨ret_b HB.out.symm, rfl⟩
      · have HB := Lib.hid (name_size (s := s) (.inl (by omega)))
        clear HA
        have h1' : s.size < 1 := by omega
        go_wp2
        go_ret
        exact ⟨ret_b HB.out.symm, rfl⟩
end Go.Proofs.YtdbgcbkmcbgdiaaGreat.mem

namespace Go.Proofs.YtdbgcbkmcbgdiaaGreat.mem
open Go.RowKit
set_option linter.unusedVariables false

theorem bel2 (w : World) (a b : Obj) : Below w.heap.size w ((w.alloc a).alloc b) := ((Below.refl _ _).alloc (Nat.le_refl _) a).alloc (by simp) b
theorem below_dr0 {w w1 : World} (hb : Below w.drew.heap.size w.drew w1) : Below w.heap.size w w1 := ⟨hb.os, hb.tape, hb.output, hb.size, hb.block⟩
theorem World.heap_drew (w : World) : w.drew.heap = w.heap := rfl

end Go.Proofs.YtdbgcbkmcbgdiaaGreat.mem

namespace Go.Proofs.YtdbgcbkmcbgdiaaGreat.mem
open Go.RowKit
set_option linter.unusedVariables false

theorem nod_name {x : Nod} (h : nameB x.s = false) : nodB x = false := by unfold nodB; rw [h]; rfl
theorem nod_ab {x : Nod} (h : ¬ 0 ≤ x.lo ∨ ¬ x.lo ≤ x.hi ∨ ¬ x.hi ≤ 100000000) : nodB x = false := by
  unfold nodB
  rcases h with h | h | h <;> rw [decide_eq_false h] <;> simp
theorem nod_yes {x : Nod} (h : nameB x.s = true) (h1 : 0 ≤ x.lo) (h2 : x.lo ≤ x.hi) (h3 : x.hi ≤ 100000000) : nodB x = true := by
  unfold nodB
  rw [h, decide_eq_true h1, decide_eq_true h2, decide_eq_true h3]; rfl

theorem isNode_any (x : Nod) (w : World) (hs : x.s.size ≤ 9223372036854775807) : Calls Tryz.prog 170 #[.agg #[.string x.s, .int .i64 x.lo, .int .i64 x.hi]] w fun e w' => e = .returned (.bool (nodB x)) ∧ Below w.heap.size w w' := by
  obtain ⟨s, lo, hi⟩ := x
  simp only at hs ⊢
  cases hn : nameB s
  · have HN := Lib.hid (nod_name (x := ⟨s, lo, hi⟩) hn)
    go_enter Tryz.func170, Tryz.ntmps170
    go_wp2_with (go_at_call 181; refine (isName_any _ _ hs).mono ?_; rintro e w' ⟨rfl, rfl⟩)
    go_ret
    exact ⟨ret_b HN.out.symm, below_new _ _⟩
  by_cases h : 0 ≤ lo ∧ lo ≤ hi ∧ hi ≤ 100000000
  · obtain ⟨h1, h2, h3⟩ := h
    have HN := Lib.hid (nod_yes (x := ⟨s, lo, hi⟩) hn h1 h2 h3)
    go_enter Tryz.func170, Tryz.ntmps170
    go_wp2_with (go_at_call 181; refine (isName_any _ _ hs).mono ?_; rintro e w' ⟨rfl, rfl⟩)
    go_ret
    exact ⟨ret_b (by first | exact HN.out.symm | (rw [HN.out]; simp; done) | (rw [HN.out]; simp; omega)), below_new _ _⟩
  · have HN := Lib.hid (nod_ab (x := ⟨s, lo, hi⟩) (by show ¬ 0 ≤ lo ∨ ¬ lo ≤ hi ∨ ¬ hi ≤ 100000000; omega))
    by_cases h1 : 0 ≤ lo <;> by_cases h2 : lo ≤ hi
    all_goals
      have HX := Lib.hid h
    all_goals
      clear h
      go_enter Tryz.func170, Tryz.ntmps170
      go_wp2_with (go_at_call 181; refine (isName_any _ _ hs).mono ?_; rintro e w' ⟨rfl, rfl⟩)
      go_ret
      exact ⟨ret_b (by first | exact HN.out.symm | (rw [HN.out]; simp; done) | (have := HX.out; rw [HN.out]; simp; omega)), below_new _ _⟩
theorem sIsNode_any (x : Nod) (w : World) (hs : x.s.size ≤ 9223372036854775807) : Calls Tryz.prog 140 #[.agg #[.string x.s, .int .i64 x.lo, .int .i64 x.hi]] w fun e w' => e = .returned (.bool (nodB x)) ∧ Below w.heap.size w w' := by
  obtain ⟨s, lo, hi⟩ := x
  simp only at hs ⊢
  cases hn : nameB s
  · have HN := Lib.hid (nod_name (x := ⟨s, lo, hi⟩) hn)
    go_enter Tryz.func140, Tryz.ntmps140
    go_wp2_with (go_at_call 164; refine (l02Name_any _ _ hs).mono ?_; rintro e w' ⟨rfl, rfl⟩)
    go_ret
    exact ⟨ret_b HN.out.symm, below_new _ _⟩
  by_cases h : 0 ≤ lo ∧ lo ≤ hi ∧ hi ≤ 100000000
  · obtain ⟨h1, h2, h3⟩ := h
    have HN := Lib.hid (nod_yes (x := ⟨s, lo, hi⟩) hn h1 h2 h3)
    go_enter Tryz.func140, Tryz.ntmps140
    go_wp2_with (go_at_call 164; refine (l02Name_any _ _ hs).mono ?_; rintro e w' ⟨rfl, rfl⟩)
    go_ret
    exact ⟨ret_b (by first | exact HN.out.symm | (rw [HN.out]; simp; done) | (rw [HN.out]; simp; omega)), below_new _ _⟩
  · have HN := Lib.hid (nod_ab (x := ⟨s, lo, hi⟩) (by show ¬ 0 ≤ lo ∨ ¬ lo ≤ hi ∨ ¬ hi ≤ 100000000; omega))
    by_cases h1 : 0 ≤ lo <;> by_cases h2 : lo ≤ hi
    all_goals
      have HX := Lib.hid h
    all_goals
      clear h
      go_enter Tryz.func140, Tryz.ntmps140
      go_wp2_with (go_at_call 164; refine (l02Name_any _ _ hs).mono ?_; rintro e w' ⟨rfl, rfl⟩)
      go_ret
      exact ⟨ret_b (by first | exact HN.out.symm | (rw [HN.out]; simp; done) | (have := HX.out; rw [HN.out]; simp; omega)), below_new _ _⟩

theorem bc3 (a b c : Bool) : a = false ∨ (a = true ∧ b = false) ∨ (a = true ∧ b = true ∧ c = false) ∨ (a = true ∧ b = true ∧ c = true) := by cases a <;> cases b <;> cases c <;> simp
def numB (p : Pip) : Bool := inR p.k 1 1000 && inR p.v 0 1000000 && inR p.l 1 30000
theorem pipB_eq (n : Int) (p : Pip) : pipB n p = (inR p.f 0 (n - 1) && inR p.t 0 (n - 1) && (p.f != p.t) && numB p) := by unfold pipB numB; simp only [Bool.and_assoc]
theorem hasValidNumbers_any (p : Pip) (w : World) : Calls Tryz.prog 173 #[.agg #[.int .i64 p.f, .int .i64 p.t, .int .i64 p.k, .int .i64 p.v, .int .i64 p.l]] w fun e w' => e = .returned (.bool (numB p)) ∧ Below w.heap.size w w' := by
  unfold numB
  rcases bc3 (inR p.k 1 1000) (inR p.v 0 1000000) (inR p.l 1 30000) with h1 | ⟨h1, h2⟩ | ⟨h1, h2, h3⟩ | ⟨h1, h2, h3⟩
  all_goals
    go_enter Tryz.func173, Tryz.ntmps173
    go_wp2_with (go_at_call 109; refine (inRange_any _ _ _ _).mono ?_; rintro e w' ⟨rfl, rfl⟩)
    go_ret
    exact ⟨ret_b (by simp [*]), below_new _ _⟩
theorem l02Pipe_any (p : Pip) (n : Int) (w : World) (hn0 : 0 ≤ n) (hn : n ≤ 9223372036854775807) : Calls Tryz.prog 141 #[.agg #[.int .i64 p.f, .int .i64 p.t, .int .i64 p.k, .int .i64 p.v, .int .i64 p.l], .int .i64 n] w fun e w' => e = .returned (.bool (pipB n p)) ∧ Below w.heap.size w w' := by
  unfold pipB
  rcases bc3 (inR p.f 0 (n - 1)) (inR p.t 0 (n - 1)) (p.f != p.t) with h1 | ⟨h1, h2⟩ | ⟨h1, h2, h3⟩ | ⟨h1, h2, h3⟩
  rotate_left 3
  rcases bc3 (inR p.k 1 1000) (inR p.v 0 1000000) (inR p.l 1 30000) with h4 | ⟨h4, h5⟩ | ⟨h4, h5, h6⟩ | ⟨h4, h5, h6⟩
  all_goals
    go_enter Tryz.func141, Tryz.ntmps141
    go_wp2_with (go_at_call 117; refine (l01In_any _ _ _ _).mono ?_; rintro e w' ⟨rfl, rfl⟩)
    go_ret
    exact ⟨ret_b (by simp [*]), below_new _ _⟩

/-- a boxed network -/
def bx (v0 v1 : Value) : Nat → Value := fun k => if k = 0 then v0 else v1
theorem boxed (w : World) (v0 v1 : Value) (t : TypeId) : Ob (w.alloc (.cells #[v0, v1] t)) w.heap.size 2 (bx v0 v1) := Ob.new w _ _ 2 _ rfl (by intro k hk; rcases (by omega : k = 0 ∨ k = 1) with rfl | rfl <;> rfl)
theorem Ob.b0 {w : World} {b : Nat} {v0 v1 : Value} (h : Ob w b 2 (bx v0 v1)) : w.cell? ⟨b, 0, none⟩ = some v0 := h.cell 0 (by omega)
theorem Ob.b1 {w : World} {b : Nat} {v0 v1 : Value} (h : Ob w b 2 (bx v0 v1)) : w.cell? ⟨b, 1, none⟩ = some v1 := h.cell 1 (by omega)

theorem hasNode_any (p0 p1 : Option Addr) (n c0 m c1 : Nat) (x : Int) (w : World) (hn : n ≤ 9223372036854775807) : Calls Tryz.prog 172 #[.agg #[.slice p0 n c0, .slice p1 m c1], .int .i64 x] w fun e w' => e = .returned (.bool (inR x 0 (n - 1))) ∧ Below w.heap.size w w' := by
  unfold inR
  by_cases h1 : 0 ≤ x
  all_goals
    go_enter Tryz.func172, Tryz.ntmps172
    go_wp2_with fail
    go_ret
    exact ⟨ret_b (by simp [h1] <;> omega), below_new _ _⟩
def szB (n m : Nat) : Bool := decide (1 ≤ n ∧ n ≤ 24 ∧ m ≤ 40)
theorem szB_iff {n m : Nat} : szB n m = true ↔ 1 ≤ n ∧ n ≤ 24 ∧ m ≤ 40 := by unfold szB; simp
theorem szB_no {n m : Nat} (h : ¬ (1 ≤ n ∧ n ≤ 24 ∧ m ≤ 40)) : szB n m = false := by unfold szB; simp only [decide_eq_false_iff_not]; exact h
theorem hasValidSizes_any (p0 p1 : Option Addr) (n c0 m c1 : Nat) (w : World) (hn : n ≤ 9223372036854775807) (hm : m ≤ 9223372036854775807) : Calls Tryz.prog 149 #[.agg #[.slice p0 n c0, .slice p1 m c1]] w fun e w' => e = .returned (.bool (szB n m)) ∧ Below w.heap.size w w' := by
  by_cases h : 1 ≤ n ∧ n ≤ 24 ∧ m ≤ 40
  · have HS := Lib.hid (szB_iff.2 h)
    obtain ⟨h0, h1, h2⟩ := h
    have g0 : (0 : Int) < n := by omega
    go_enter Tryz.func149, Tryz.ntmps149
    go_wp2_with fail
    go_ret
    exact ⟨ret_b (by rw [HS.out]; simp <;> omega), below_new _ _⟩
  · have HS := Lib.hid (szB_no h)
    rcases (by omega : n < 1 ∨ (1 ≤ n ∧ 24 < n) ∨ (1 ≤ n ∧ n ≤ 24 ∧ 40 < m)) with h0 | ⟨h0, h1⟩ | ⟨h0, h1, h2⟩
    · have g0 : ¬ ((0 : Int) < n) := by omega
      clear h
      go_enter Tryz.func149, Tryz.ntmps149
      go_wp2_with fail
      go_ret
      exact ⟨ret_b HS.out.symm, below_new _ _⟩
    · have g0 : (0 : Int) < n := by omega
      have g1 : decide ((n : Int) ≤ 24) = false := by simp; omega
      clear h
      go_enter Tryz.func149, Tryz.ntmps149
      go_wp2_with fail
      go_ret
      exact ⟨ret_b HS.out.symm, below_new _ _⟩
    · have g0 : (0 : Int) < n := by omega
      have g1 : decide ((n : Int) ≤ 24) = true := by simp; omega
      have g2 : decide ((m : Int) ≤ 40) = false := by simp; omega
      clear h
      go_enter Tryz.func149, Tryz.ntmps149
      go_wp2_with fail
      go_ret
      exact ⟨ret_b HS.out.symm, below_new _ _⟩
end Go.Proofs.YtdbgcbkmcbgdiaaGreat.mem

namespace Go.Proofs.YtdbgcbkmcbgdiaaGreat.mem
open Go.RowKit Go.WideMaps Go.Maps
set_option linter.unusedVariables false

theorem mlaw : Keyed Tryz.prog 9 := string_keyed Tryz.underlying9
theorem mmake (w : World) (n : Int) : (Instr.makeMap 168 (some (.int .i64 n))).run Tryz.prog w = .ok (.map (some w.heap.size)) (w.alloc (.map #[] 0)) := by
  simp [Instr.makeMap, run_underlying Tryz.underlying168, asInt, asIntOf, newObj]
  rfl
def nkey (s : ByteArray) : Lit := .string s.data.toList
theorem nkey_ok {s : ByteArray} (h : s.size ≤ 9223372036854775807) : keyOf Tryz.prog 9 (.string s) = some (nkey s) := keyOf_string_mk Tryz.underlying9 (by unfold maxLen; exact h)
/-- the map of the first k names -/
def CM (N : Nat → Nod) : Nat → DataW Unit
  | 0 => .map []
  | k + 1 => (CM N k).put (nkey (N k).s) (.lit (.int .i64 k))

set_option maxRecDepth 100000 in
set_option maxHeartbeats 4000000 in
theorem indices_any (p0 p1 : Option Addr) (n c0 m c1 : Nat) (N : Nat → Nod) (lo hi : Nat) (w : World) (h : Cs w (.slice p0 n c0) n 3 (nodC N) lo hi) (hn : n ≤ 2000000) (hhi : hi ≤ w.heap.size) (hN : ∀ i, i < n → (N i).s.size ≤ 9223372036854775807) :
    Calls Tryz.prog 171 #[.agg #[.slice p0 n c0, .slice p1 m c1]] w fun e w' => e = .returned (.map (some (w.heap.size + 1))) ∧ w'.ownsMap Tryz.prog 9 (plainElem Tryz.prog 2) (w.heap.size + 1) n (CM N n) ∧ Below w.heap.size w w' := by
  obtain ⟨p, cap, hv, q1, q2, hc⟩ := h
  obtain ⟨rfl, rfl⟩ : p0 = p ∧ c0 = cap := by
    injection hv with e1 _ e2
    exact ⟨e1, e2⟩
  have HC := Lib.hid hc
  have HN := Lib.hid hN
  clear hc hv hN
  have hmm := mmake
  go_enter Tryz.func171, Tryz.ntmps171
  go_wp2_with fail
  generalize hW : (w.alloc (Obj.cells #[Value.slice p0 n c0, Value.slice p1 m c1] 27)).alloc (Obj.map #[] 0) = W1
  have a0 : Ob W1 w.heap.size 2 (bx (.slice p0 n c0) (.slice p1 m c1)) := by rw [← hW]; exact (boxed w _ _ _).keep (Below.heap_alloc _ _ _ (by simp))
  have b0 : Below w.heap.size w W1 := by rw [← hW]; exact bel2 _ _ _
  have z0 : W1.heap.size = w.heap.size + 2 := by rw [← hW]; simp
  have m0 : W1.ownsMap Tryz.prog 9 (plainElem (H := Unit) Tryz.prog 2) (w.heap.size + 1) 0 (.map []) := by
    rw [← hW]
    have := World.ownsMap_made (w.alloc (Obj.cells #[Value.slice p0 n c0, Value.slice p1 m c1] 27)) Tryz.prog 9 (plainElem (H := Unit) Tryz.prog 2)
    simpa using this
  clear hW hmm
  replace z0 := Nat.le_antisymm_iff.1 z0
  have A0 := Lib.hid a0
  have B0 := Lib.hid b0
  have M0 := Lib.hid m0
  clear a0 b0 m0
  go_loopw [13] (fun i wr => ∃ k : Nat, i = .int .i64 k ∧ k ≤ n ∧ wr.ownsMap Tryz.prog 9 (plainElem Tryz.prog 2) (w.heap.size + 1) k (CM N k) ∧ Below w.heap.size w wr ∧ W1.heap.size ≤ wr.heap.size) (fun i _ => n - (intOf i).toNat)
  case atStart => exact ⟨0, rfl, Nat.zero_le _, M0.out, B0.out, Nat.le_refl _⟩
  case round =>
    obtain ⟨k, rfl, hk, hown, hbel, hsz⟩ := hrel
    have HB := Lib.hid hbel
    have HM := Lib.hid hown
    clear hbel hown
    by_cases hlt : k < n
    · rcases HC.out with h0 | ⟨b, o, rfl, g1, g2, g3⟩
      · omega
      have hx0 : wr.cell? ⟨b, o + k * 3, none⟩ = some (.string (N k).s) := (HB.out.cell (p := ⟨b, o + k * 3, none⟩) (by show b < _; omega)).trans (g3.cell k 0 hlt (by omega))
      have hx1 : wr.cell? ⟨b, o + k * 3 + 1, none⟩ = some (.int .i64 (N k).lo) := (HB.out.cell (p := ⟨b, o + k * 3 + 1, none⟩) (by show b < _; omega)).trans (g3.cell k 1 hlt (by omega))
      have hx2 : wr.cell? ⟨b, o + k * 3 + 2, none⟩ = some (.int .i64 (N k).hi) := (HB.out.cell (p := ⟨b, o + k * 3 + 2, none⟩) (by show b < _; omega)).trans (g3.cell k 2 hlt (by omega))
      have HK := Lib.hid (nkey_ok (HN.out k hlt))
      have HW := Lib.hid (WalkArith.wf_i64 (n := (k : Int)) (by omega))
      have HML := Lib.hid (show k < maxLen by unfold maxLen; omega)
      clear g3
      go_wp2_with (at_mapUpdate; refine wpList_mapUpdate_own _ rfl _ _ _ 168 rfl 9 2 mlaw Tryz.underlying168 _ (w.heap.size + 1) k _ rfl ((HM.out.alloc _)) HML.out _ _ _ rfl rfl HK.out _ [] (plainElem_int Tryz.underlying2 HW.out) ?_)
      intro w1 hown1 hgrow1
      have HM1 := Lib.hid hown1
      have HB1 := Lib.hid ((below_alloc HB.out (by omega) _).grown hgrow1 (by simp; omega) (fun j hj => by cases hj; omega))
      have hs1 := hgrow1.size
      simp at hs1
      clear hown1 hgrow1 hx0 hx1 hx2
      go_wp2_with fail
      go_roundw
      case rel => exact ⟨k + 1, by go_num, hlt, HM1.out, HB1.out, by omega⟩
      case measure => simp [intOf]; omega
    · obtain rfl : k = n := by omega
      go_wp2_with fail
      go_ret
      exact ⟨rfl, HM.out, HB.out⟩
end Go.Proofs.YtdbgcbkmcbgdiaaGreat.mem

namespace Go.Proofs.YtdbgcbkmcbgdiaaGreat.mem
open Go.RowKit Go.WideMaps Go.Maps
set_option linter.unusedVariables false

theorem nkey_inj {s t : ByteArray} (h : nkey s = nkey t) : s = t := by
  unfold nkey at h
  injection h with h
  obtain ⟨⟨l⟩⟩ := s
  obtain ⟨⟨l'⟩⟩ := t
  simp only at h
  rw [h]
theorem nkey_is (s : ByteArray) : WideAt.IsKeyLit (nkey s) := by unfold nkey WideAt.IsKeyLit; trivial
/-- the names of the first n nodes differ -/
def distP (N : Nat → Nod) (n : Nat) : Prop := ∀ i j, i < j → j < n → (N i).s ≠ (N j).s
theorem cm_tidy (N : Nat → Nod) : ∀ n, Tidy (CM N n)
  | 0 => tidy_empty
  | n + 1 => (cm_tidy N n).put (nkey_is _) _
theorem cm_has (N : Nat → Nod) (s : ByteArray) : ∀ n, has (CM N n) (nkey s) = true ↔ ∃ i, i < n ∧ (N i).s = s
  | 0 => by
    constructor
    · intro h; cases h
    · rintro ⟨i, hi, _⟩; omega
  | n + 1 => by
    unfold CM
    by_cases e : nkey s = nkey (N n).s
    · rw [e, has_put_same (cm_tidy N n).isMap (nkey_is _)]
      exact ⟨fun _ => ⟨n, by omega, (nkey_inj e).symm⟩, fun _ => rfl⟩
    · rw [has_put_other e, cm_has N s n]
      constructor
      · rintro ⟨i, hi, h⟩; exact ⟨i, by omega, h⟩
      · rintro ⟨i, hi, h⟩
        refine ⟨i, ?_, h⟩
        rcases Nat.lt_or_ge i n with g | g
        · exact g
        · obtain rfl : i = n := by omega
          exact absurd (by rw [h]) e
theorem cm_size (N : Nat → Nod) : ∀ n, size (CM N n) ≤ n ∧ (size (CM N n) = n ↔ distP N n)
  | 0 => ⟨Nat.le_refl _, fun _ i j _ h => by omega, fun _ => rfl⟩
  | n + 1 => by
    obtain ⟨h1, h2⟩ := cm_size N n
    have h3 : size (CM N (n + 1)) = _ := size_put (cm_tidy N n) _ (k := nkey (N n).s)
    have h4 := cm_has N (N n).s n
    rw [h3]
    by_cases hh : has (CM N n) (nkey (N n).s) = true
    · rw [if_pos hh]
      refine ⟨by omega, fun e => by omega, fun hd => ?_⟩
      obtain ⟨i, hi, e⟩ := h4.1 hh
      exact absurd e (hd i n hi (by omega))
    · rw [if_neg hh]
      refine ⟨by omega, fun e => ?_, fun hd => ?_⟩
      · have hd := h2.1 (by omega)
        intro i j hij hj
        rcases Nat.lt_or_ge j n with g | g
        · exact hd i j hij g
        · obtain rfl : j = n := by omega
          exact fun e => hh (h4.2 ⟨i, hij, e⟩)
      · have := h2.2 (fun i j hij hj => hd i j hij (by omega))
        omega
open Classical in
noncomputable def nodesB (N : Nat → Nod) (n : Nat) : Bool := decide ((∀ i, i < n → nodB (N i) = true) ∧ distP N n)
theorem nodesB_iff {N : Nat → Nod} {n : Nat} : nodesB N n = true ↔ (∀ i, i < n → nodB (N i) = true) ∧ distP N n := by unfold nodesB; simp
theorem nodesB_no {N : Nat → Nod} {n i : Nat} (hi : i < n) (h : nodB (N i) = false) : nodesB N n = false := by
  unfold nodesB
  simp only [decide_eq_false_iff_not]
  rintro ⟨g, _⟩
  rw [g i hi] at h
  cases h
theorem nodesB_size {N : Nat → Nod} {n : Nat} (h : ∀ i, i < n → nodB (N i) = true) : nodesB N n = ((size (CM N n) : Int) == (n : Int)) := by
  rw [Bool.eq_iff_iff, nodesB_iff, beq_iff_eq]
  have := (cm_size N n).2
  constructor
  · rintro ⟨_, g⟩
    exact Int.ofNat_inj.2 (this.2 g)
  · intro e
    exact ⟨h, this.1 (by omega)⟩

set_option maxRecDepth 100000 in
set_option maxHeartbeats 4000000 in
theorem hasValidNodes_any (p0 p1 : Option Addr) (n c0 m c1 : Nat) (N : Nat → Nod) (lo hi : Nat) (w : World) (h : Cs w (.slice p0 n c0) n 3 (nodC N) lo hi) (hn : n ≤ 2000000) (hhi : hi ≤ w.heap.size) (hN : ∀ i, i < n → (N i).s.size ≤ 9223372036854775807) :
    Calls Tryz.prog 150 #[.agg #[.slice p0 n c0, .slice p1 m c1]] w fun e w' => e = .returned (.bool (nodesB N n)) ∧ Below w.heap.size w w' := by
  have G0 := Lib.hid h
  obtain ⟨p, cap, hv, q1, q2, hc⟩ := h
  obtain ⟨rfl, rfl⟩ : p0 = p ∧ c0 = cap := by
    injection hv with e1 _ e2
    exact ⟨e1, e2⟩
  have HC := Lib.hid hc
  have HN := Lib.hid hN
  clear hc hv hN
  go_enter Tryz.func150, Tryz.ntmps150
  go_wp2_with fail
  have A0 := Lib.hid (boxed w (.slice p0 n c0) (.slice p1 m c1) 27)
  have B0 := Lib.hid (below_new w (Obj.cells #[Value.slice p0 n c0, Value.slice p1 m c1] 27))
  have z0 : (w.alloc (Obj.cells #[Value.slice p0 n c0, Value.slice p1 m c1] 27)).heap.size = w.heap.size + 1 := by simp
  generalize hW : w.alloc (Obj.cells #[Value.slice p0 n c0, Value.slice p1 m c1] 27) = W1 at *
  replace z0 := Nat.le_antisymm_iff.1 z0
  clear hW
  go_loopw [8, 4] (fun i _ wr => ∃ k : Nat, i = .int .i64 k ∧ k ≤ n ∧ (∀ x, x < k → nodB (N x) = true) ∧ Below w.heap.size w wr ∧ Below W1.heap.size W1 wr ∧ W1.heap.size ≤ wr.heap.size) (fun i _ _ => n - (intOf i).toNat)
  case atStart => exact ⟨0, rfl, Nat.zero_le _, fun x hx => by omega, B0.out, Below.refl _ _, Nat.le_refl _⟩
  case round =>
    obtain ⟨k, rfl, hk, hall, hbel, hbel1, hsz⟩ := hrel
    have HA := Lib.hid hall
    have HB := Lib.hid hbel
    have HB1 := Lib.hid hbel1
    clear hbel hbel1 hall
    by_cases hlt : k < n
    · rcases HC.out with h0 | ⟨b, o, rfl, g1, g2, g3⟩
      · omega
      have hx0 : wr.cell? ⟨b, o + k * 3, none⟩ = some (.string (N k).s) := (HB.out.cell (p := ⟨b, o + k * 3, none⟩) (by show b < _; omega)).trans (g3.cell k 0 hlt (by omega))
      have hx1 : wr.cell? ⟨b, o + k * 3 + 1, none⟩ = some (.int .i64 (N k).lo) := (HB.out.cell (p := ⟨b, o + k * 3 + 1, none⟩) (by show b < _; omega)).trans (g3.cell k 1 hlt (by omega))
      have hx2 : wr.cell? ⟨b, o + k * 3 + 2, none⟩ = some (.int .i64 (N k).hi) := (HB.out.cell (p := ⟨b, o + k * 3 + 2, none⟩) (by show b < _; omega)).trans (g3.cell k 2 hlt (by omega))
      clear g3
      cases hnb : nodB (N k)
      all_goals
        have HNB := Lib.hid hnb
        have HS := Lib.hid (HN.out k hlt)
        go_wp2_with fail
        refine (isNode_any (N k) _ HS.out).mono ?_
        rintro e w2 ⟨rfl, b2⟩
        have C1 := Lib.hid ((below_alloc HB.out (by omega) _).trans (b2.mono (by simp; omega)))
        have C2 := Lib.hid ((below_alloc HB1.out (by omega) _).trans (b2.mono (by simp; omega)))
        have hs2 := b2.size
        simp at hs2
        clear b2 hx0 hx1 hx2
        go_wp2_with fail
      · go_ret
        exact ⟨ret_b (nodesB_no hlt HNB.out).symm, C1.out⟩
      · go_roundw
        case rel =>
          refine ⟨k + 1, by go_num, hlt, fun x hx => ?_, C1.out, C2.out, by omega⟩
          by_cases e : x = k
          · subst e; exact HNB.out
          · exact HA.out x (by omega)
        case measure => simp [intOf]; omega
    · obtain rfl : k = n := by omega
      have HE := Lib.hid (nodesB_size HA.out)
      have f0 : wr.cell? ⟨w.heap.size, 0, none⟩ = some (.slice p0 k c0) := (A0.out.below HB1.out (by omega)).b0
      have f1 : wr.cell? ⟨w.heap.size, 1, none⟩ = some (.slice p1 m c1) := (A0.out.below HB1.out (by omega)).b1
      have G1 := Lib.hid (G0.out.below HB.out hhi)
      have hsw : w.heap.size < wr.heap.size := by omega
      go_wp2_with fail
      go_region_held_law (fun w' => w'.cell? ⟨w.heap.size, 0, none⟩ = some (.slice p0 k c0) ∧ w'.cell? ⟨w.heap.size, 1, none⟩ = some (.slice p1 m c1)) (first | go_keep | (refine ⟨?_, ?_⟩ <;> (rw [hb2.cell (by simp; omega)]; assumption)))
        (first | (go_at_call 171; refine (indices_any p0 p1 k c0 m c1 N lo hi _ (G1.out.drewN 1) hn (by simp; omega) HN.out).mono ?_; rintro e w2 ⟨rfl, hm2, hb2⟩; have hlen : Sem.run Tryz.prog (Builtin.len_ #[168] 3 #[.map (some (wr.heap.size + 1))]) w2 = .ok (.int .i64 (Maps.size (CM N k))) w2 := hm2.len Tryz.underlying168 3))
      have C1 := Lib.hid (HB.out.trans ((below_dr0 hb2).mono (by omega)))
      clear hb2 hm2 hlen
      go_wp2_with fail
      go_ret
      exact ⟨ret_b HE.out.symm, C1.out⟩
end Go.Proofs.YtdbgcbkmcbgdiaaGreat.mem

namespace Go.Proofs.YtdbgcbkmcbgdiaaGreat.mem
open Go.RowKit
set_option linter.unusedVariables false

open Classical in
noncomputable def pipesB (n : Nat) (P : Nat → Pip) (m : Nat) : Bool := decide (∀ i, i < m → pipB n (P i) = true)
theorem pipesB_iff {n : Nat} {P : Nat → Pip} {m : Nat} : pipesB n P m = true ↔ ∀ i, i < m → pipB n (P i) = true := by unfold pipesB; simp
theorem pipesB_no {n : Nat} {P : Nat → Pip} {m i : Nat} (hi : i < m) (h : pipB n (P i) = false) : pipesB n P m = false := by
  unfold pipesB
  simp only [decide_eq_false_iff_not]
  intro g
  rw [g i hi] at h
  cases h

/-- a network is valid -/
noncomputable def netB (n : Nat) (N : Nat → Nod) (m : Nat) (P : Nat → Pip) : Bool := szB n m && nodesB N n && pipesB n P m

/-- a pipe in a variable -/
def vp (q : Pip) : Nat → Value := fun k => match k with
  | 0 => .int .i64 q.f
  | 1 => .int .i64 q.t
  | 2 => .int .i64 q.k
  | 3 => .int .i64 q.v
  | _ => .int .i64 q.l
theorem boxedP (w : World) (q : Pip) (t : TypeId) : Ob (w.alloc (.cells #[.int .i64 q.f, .int .i64 q.t, .int .i64 q.k, .int .i64 q.v, .int .i64 q.l] t)) w.heap.size 5 (vp q) :=
  Ob.new w _ _ 5 _ rfl (by intro k hk; rcases (by omega : k = 0 ∨ k = 1 ∨ k = 2 ∨ k = 3 ∨ k = 4) with rfl | rfl | rfl | rfl | rfl <;> rfl)

set_option maxHeartbeats 8000000 in
theorem hasValidPipes_any (p0 p1 : Option Addr) (n c0 m c1 : Nat) (P : Nat → Pip) (lo hi : Nat) (w : World) (h : Cs w (.slice p1 m c1) m 5 (pipC P) lo hi) (hn : n ≤ 2000000) (hm : m ≤ 2000000) (hhi : hi ≤ w.heap.size) :
    Calls Tryz.prog 151 #[.agg #[.slice p0 n c0, .slice p1 m c1]] w fun e w' => e = .returned (.bool (pipesB n P m)) ∧ Below w.heap.size w w' := by
  obtain ⟨p, cap, hv, q1, q2, hc⟩ := h
  obtain ⟨rfl, rfl⟩ : p1 = p ∧ c1 = cap := by
    injection hv with e1 _ e2
    exact ⟨e1, e2⟩
  have HC := Lib.hid hc
  clear hc hv
  go_enter Tryz.func151, Tryz.ntmps151
  go_wp2_with fail
  have A0 := Lib.hid (boxed w (.slice p0 n c0) (.slice p1 m c1) 27)
  have B0 := Lib.hid (below_new w (Obj.cells #[Value.slice p0 n c0, Value.slice p1 m c1] 27))
  have z0 : (w.alloc (Obj.cells #[Value.slice p0 n c0, Value.slice p1 m c1] 27)).heap.size = w.heap.size + 1 := by simp
  generalize hW : w.alloc (Obj.cells #[Value.slice p0 n c0, Value.slice p1 m c1] 27) = W1 at *
  replace z0 := Nat.le_antisymm_iff.1 z0
  clear hW
  go_loopw [8, 4] (fun i _ wr => ∃ k : Nat, i = .int .i64 k ∧ k ≤ m ∧ (∀ x, x < k → pipB n (P x) = true) ∧ Below w.heap.size w wr ∧ Below W1.heap.size W1 wr ∧ W1.heap.size ≤ wr.heap.size) (fun i _ _ => m - (intOf i).toNat)
  case atStart => exact ⟨0, rfl, Nat.zero_le _, fun x hx => by omega, B0.out, Below.refl _ _, Nat.le_refl _⟩
  case round =>
    obtain ⟨k, rfl, hk, hall, hbel, hbel1, hsz⟩ := hrel
    have HA := Lib.hid hall
    have HB := Lib.hid hbel
    have HB1 := Lib.hid hbel1
    clear hbel hbel1 hall
    by_cases hlt : k < m
    · rcases HC.out with h0 | ⟨b, o, rfl, g1, g2, g3⟩
      · omega
      have G3 := Lib.hid g3
      clear g3
      have hx : ∀ j, j < 5 → wr.cell? ⟨b, o + k * 5 + j, none⟩ = some (pipC P k j) := fun j hj => (HB.out.cell (p := ⟨b, o + k * 5 + j, none⟩) (by show b < _; omega)).trans (G3.out.cell k j hlt hj)
      have hx0 : wr.cell? ⟨b, o + k * 5, none⟩ = some (.int .i64 (P k).f) := hx 0 (by omega)
      have hx1 : wr.cell? ⟨b, o + k * 5 + 1, none⟩ = some (.int .i64 (P k).t) := hx 1 (by omega)
      have hx2 : wr.cell? ⟨b, o + k * 5 + 2, none⟩ = some (.int .i64 (P k).k) := hx 2 (by omega)
      have hx3 : wr.cell? ⟨b, o + k * 5 + 3, none⟩ = some (.int .i64 (P k).v) := hx 3 (by omega)
      have hx4 : wr.cell? ⟨b, o + k * 5 + 4, none⟩ = some (.int .i64 (P k).l) := hx 4 (by omega)
      clear hx
      generalize hp : P k = q at *
      have HP := Lib.hid hp
      clear hp
      have HE := Lib.hid (pipB_eq n q)
      have f0 := (A0.out.below HB1.out (by omega)).b0
      have f1 := (A0.out.below HB1.out (by omega)).b1
      have hsw : w.heap.size < wr.heap.size := by omega
      have A1 : Ob (wr.alloc (.cells #[.int .i64 q.f, .int .i64 q.t, .int .i64 q.k, .int .i64 q.v, .int .i64 q.l] 121)) w.heap.size 2 (bx (.slice p0 n c0) (.slice (some ⟨b, o, none⟩) m c1)) := (A0.out.below HB1.out (by omega)).keep (Below.heap_alloc _ _ _ hsw)
      have V1 := boxedP wr q 121
      have C1 : Below w.heap.size w (wr.alloc (.cells #[.int .i64 q.f, .int .i64 q.t, .int .i64 q.k, .int .i64 q.v, .int .i64 q.l] 121)) := below_alloc HB.out (by omega) _
      have D1 : Below W1.heap.size W1 (wr.alloc (.cells #[.int .i64 q.f, .int .i64 q.t, .int .i64 q.k, .int .i64 q.v, .int .i64 q.l] 121)) := below_alloc HB1.out (by omega) _
      have hs1 : wr.heap.size + 1 ≤ (wr.alloc (.cells #[.int .i64 q.f, .int .i64 q.t, .int .i64 q.k, .int .i64 q.v, .int .i64 q.l] 121)).heap.size := by simp
      have hn9 : n ≤ 9223372036854775807 := by omega
      rcases bc3 (inR q.f 0 (n - 1)) (inR q.t 0 (n - 1)) (q.f != q.t) with h1 | ⟨h1, h2⟩ | ⟨h1, h2, h3⟩ | ⟨h1, h2, h3⟩
      rotate_left 3
      cases h4 : numB q
      rotate_left 2
      all_goals
        try have h3' : (q.f == q.t) = !(q.f != q.t) := by simp [bne]
        try rw [h3] at h3'
        try simp only [Bool.not_true, Bool.not_false] at h3'
        go_wp2_with (first
          | (go_at_call 172; refine (hasNode_any _ _ n _ m _ _ _ hn9).mono ?_; rintro e w2 ⟨rfl, b2⟩; have A2 := Ob.below (by assumption : Ob _ w.heap.size 2 (bx (.slice p0 n c0) (.slice (some ⟨b, o, none⟩) m c1))) b2 (by omega); have V2 := Ob.below (by assumption : Ob _ wr.heap.size 5 (vp q)) b2 (by omega); have C2 := Below.trans (by assumption : Below w.heap.size w _) (b2.mono (by omega)); have D2 := Below.trans (by assumption : Below W1.heap.size W1 _) (b2.mono (by omega)); have hs2 := Nat.le_trans (by assumption : wr.heap.size + 1 ≤ _) b2.size; have e0 := A2.b0; have e1 := A2.b1; have y0 : w2.cell? ⟨wr.heap.size, 0, none⟩ = some (.int .i64 q.f) := V2.cell 0 (by omega); have y1 : w2.cell? ⟨wr.heap.size, 1, none⟩ = some (.int .i64 q.t) := V2.cell 1 (by omega); have y2 : w2.cell? ⟨wr.heap.size, 2, none⟩ = some (.int .i64 q.k) := V2.cell 2 (by omega); have y3 : w2.cell? ⟨wr.heap.size, 3, none⟩ = some (.int .i64 q.v) := V2.cell 3 (by omega); have y4 : w2.cell? ⟨wr.heap.size, 4, none⟩ = some (.int .i64 q.l) := V2.cell 4 (by omega); clear b2)
          | (go_at_call 173; refine (hasValidNumbers_any q _).mono ?_; rintro e w2 ⟨rfl, b2⟩; have C2 := Below.trans (by assumption : Below w.heap.size w _) (b2.mono (by omega)); have D2 := Below.trans (by assumption : Below W1.heap.size W1 _) (b2.mono (by omega)); have hs2 := Nat.le_trans (by assumption : wr.heap.size + 1 ≤ _) b2.size; clear b2))
      · go_ret
        exact ⟨ret_b (pipesB_no hlt (by rw [HP.out, HE.out, h1]; rfl)).symm, by assumption⟩
      · go_ret
        exact ⟨ret_b (pipesB_no hlt (by rw [HP.out, HE.out, h1, h2]; rfl)).symm, by assumption⟩
      · go_ret
        exact ⟨ret_b (pipesB_no hlt (by rw [HP.out, HE.out, h1, h2, h3]; rfl)).symm, by assumption⟩
      · go_ret
        exact ⟨ret_b (pipesB_no hlt (by rw [HP.out, HE.out, h1, h2, h3, h4]; rfl)).symm, by assumption⟩
      · have HT := Lib.hid (show pipB n q = true by rw [HE.out, h1, h2, h3, h4]; rfl)
        go_roundw
        case rel =>
          refine ⟨k + 1, by go_num, hlt, fun x hx => ?_, by assumption, by assumption, by omega⟩
          by_cases e : x = k
          · subst e; rw [HP.out]; exact HT.out
          · exact HA.out x (by omega)
        case measure => simp [intOf]; omega
    · go_wp2_with fail
      go_ret
      exact ⟨ret_b (pipesB_iff.2 (fun x hx => HA.out x (by omega))).symm, HB.out⟩

set_option maxHeartbeats 2000000 in
/-- the program's IsNetwork -/
theorem isNetwork_any (w : World) (v : Value) (n : Nat) (N : Nat → Nod) (m : Nat) (P : Nat → Pip) (lo hi : Nat) (h : NetAt w v n N m P lo hi) (hhi : hi ≤ w.heap.size) (hN : ∀ i, i < n → (N i).s.size ≤ 9223372036854775807) :
    Calls Tryz.prog 105 #[v] w fun e w' => e = .returned (.bool (netB n N m P)) ∧ Below w.heap.size w w' := by
  obtain ⟨v0, v1, rfl, g0, g1⟩ := h.ex
  obtain ⟨p0, c0, rfl⟩ := g0.shape
  obtain ⟨p1, c1, rfl⟩ := g1.shape
  have hn : n ≤ 9223372036854775807 := by
    obtain ⟨p, cap, he, q1, q2, _⟩ := g0.ex
    omega
  have hm : m ≤ 9223372036854775807 := by
    obtain ⟨p, cap, he, q1, q2, _⟩ := g1.ex
    omega
  have G0 := Lib.hid g0
  have G1 := Lib.hid g1
  have HN := Lib.hid hN
  have HU := Lib.hid (show netB n N m P = (szB n m && nodesB N n && pipesB n P m) from rfl)
  clear h g0 g1 hN
  have A1 := boxed w (.slice p0 n c0) (.slice p1 m c1) 27
  have C1 : Below w.heap.size w (w.alloc (.cells #[.slice p0 n c0, .slice p1 m c1] 27)) := below_new w _
  have hs1 : w.heap.size + 1 ≤ (w.alloc (.cells #[.slice p0 n c0, .slice p1 m c1] 27)).heap.size := by simp
  have HSZ := Lib.hid (@szB_iff n m)
  rcases bc3 (szB n m) (nodesB N n) (pipesB n P m) with h1 | ⟨h1, h2⟩ | ⟨h1, h2, h3⟩ | ⟨h1, h2, h3⟩
  rotate_left 1
  all_goals
    try have hn2 : n ≤ 2000000 := by have := HSZ.out.1 h1; omega
    try have hm2 : m ≤ 2000000 := by have := HSZ.out.1 h1; omega
  rotate_left 3
  all_goals
    go_enter Tryz.func105, Tryz.ntmps105
    go_wp2_with (first
      | (go_at_call 149; refine (hasValidSizes_any _ _ n _ m _ _ hn hm).mono ?_; rintro e w2 ⟨rfl, b2⟩; have A2 := Ob.below (by assumption : Ob _ w.heap.size 2 (bx (.slice p0 n c0) (.slice p1 m c1))) b2 (by omega); have C2 := Below.trans (by assumption : Below w.heap.size w _) (b2.mono (by omega)); have hs2 := Nat.le_trans (by assumption : w.heap.size + 1 ≤ _) b2.size; have e0 := A2.b0; have e1 := A2.b1; clear b2)
      | (go_at_call 150; refine (hasValidNodes_any _ _ n _ m _ N lo hi _ (G0.out.below (by assumption : Below w.heap.size w _) hhi) hn2 (by omega) HN.out).mono ?_; rintro e w2 ⟨rfl, b2⟩; have A2 := Ob.below (by assumption : Ob _ w.heap.size 2 (bx (.slice p0 n c0) (.slice p1 m c1))) b2 (by omega); have C2 := Below.trans (by assumption : Below w.heap.size w _) (b2.mono (by omega)); have hs2 := Nat.le_trans (by assumption : w.heap.size + 1 ≤ _) b2.size; have e0 := A2.b0; have e1 := A2.b1; clear b2)
      | (go_at_call 151; refine (hasValidPipes_any _ _ n _ m _ P lo hi _ (G1.out.below (by assumption : Below w.heap.size w _) hhi) hn2 hm2 (by omega)).mono ?_; rintro e w2 ⟨rfl, b2⟩; have C2 := Below.trans (by assumption : Below w.heap.size w _) (b2.mono (by omega)); clear b2))
    go_ret
  · exact ⟨ret_b (by rw [HU.out, h1]; rfl), by assumption⟩
  · exact ⟨ret_b (by rw [HU.out, h1, h2]; rfl), by assumption⟩
  · exact ⟨ret_b (by rw [HU.out, h1, h2, h3]; rfl), by assumption⟩
  · exact ⟨ret_b (by rw [HU.out, h1, h2, h3]; rfl), by assumption⟩
end Go.Proofs.YtdbgcbkmcbgdiaaGreat.mem

namespace Go.Proofs.YtdbgcbkmcbgdiaaGreat.mem
open Go.RowKit
set_option linter.unusedVariables false

theorem nodesB_twin {N : Nat → Nod} {n i j : Nat} (hij : i < j) (hj : j < n) (h : (N i).s = (N j).s) : nodesB N n = false := by
  unfold nodesB
  simp only [decide_eq_false_iff_not]
  rintro ⟨_, g⟩
  exact g i j hij hj h
theorem list_ne {s t : ByteArray} (h : s ≠ t) : (s.toList == t.toList) = false := by
  rw [beq_eq_false_iff_ne, ByteArray.toList_eq, ByteArray.toList_eq]
  intro e
  apply h
  obtain ⟨⟨x⟩⟩ := s
  obtain ⟨⟨y⟩⟩ := t
  simp only at e
  rw [e]
theorem list_eq {s t : ByteArray} (h : s = t) : (s.toList == t.toList) = true := by rw [h]; simp

set_option maxRecDepth 100000 in
set_option maxHeartbeats 8000000 in
theorem sIsNetwork_any (w : World) (v : Value) (n : Nat) (N : Nat → Nod) (m : Nat) (P : Nat → Pip) (lo hi : Nat) (h : NetAt w v n N m P lo hi) (hhi : hi ≤ w.heap.size) (hN : ∀ i, i < n → (N i).s.size ≤ 9223372036854775807) :
    Calls Tryz.prog 86 #[v] w fun e w' => e = .returned (.bool (netB n N m P)) ∧ Below w.heap.size w w' := by
  obtain ⟨v0, v1, rfl, g0, g1⟩ := h.ex
  obtain ⟨p0, c0, rfl⟩ := g0.shape
  obtain ⟨p1, c1, rfl⟩ := g1.shape
  have hn : n ≤ 9223372036854775807 := by
    obtain ⟨p, cap, he, q1, q2, _⟩ := g0.ex
    omega
  have hm : m ≤ 9223372036854775807 := by
    obtain ⟨p, cap, he, q1, q2, _⟩ := g1.ex
    omega
  have HC0 : Hid (n = 0 ∨ ∃ b o, p0 = some ⟨b, o, none⟩ ∧ lo ≤ b ∧ b < hi ∧ At w b o n 3 (nodC N)) := by
    obtain ⟨p, cap, hv, _, _, hc⟩ := g0.ex
    injection hv with e1 _ e2
    subst e1
    exact Lib.hid hc
  have HC1 : Hid (m = 0 ∨ ∃ b o, p1 = some ⟨b, o, none⟩ ∧ lo ≤ b ∧ b < hi ∧ At w b o m 5 (pipC P)) := by
    obtain ⟨p, cap, hv, _, _, hc⟩ := g1.ex
    injection hv with e1 _ e2
    subst e1
    exact Lib.hid hc
  have HN := Lib.hid hN
  have HU := Lib.hid (show netB n N m P = (szB n m && nodesB N n && pipesB n P m) from rfl)
  clear h g0 g1 hN
  cases hsz : szB n m
  · have HX := Lib.hid (show netB n N m P = false by rw [HU.out, hsz]; rfl)
    have hno : ¬ (1 ≤ n ∧ n ≤ 24 ∧ m ≤ 40) := fun h => by rw [szB_iff.2 h] at hsz; cases hsz
    clear hsz
    rcases (by omega : n < 1 ∨ (¬ n < 1 ∧ 24 < n) ∨ (¬ n < 1 ∧ ¬ 24 < n ∧ 40 < m)) with h0 | ⟨h0, h1⟩ | ⟨h0, h1, h2⟩
    all_goals
      clear hno
      go_enter Tryz.func86, Tryz.ntmps86
      go_wp2_with fail
      go_ret
      exact ⟨ret_b HX.out.symm, below_new _ _⟩
  obtain ⟨s1, s2, s3⟩ := szB_iff.1 hsz
  have HSZ := Lib.hid hsz
  clear hsz
  go_enter Tryz.func86, Tryz.ntmps86
  go_wp2_with fail
  have A0 := Lib.hid (boxed w (.slice p0 n c0) (.slice p1 m c1) 27)
  have B0 := Lib.hid (below_new w (Obj.cells #[Value.slice p0 n c0, Value.slice p1 m c1] 27))
  have z0 : (w.alloc (Obj.cells #[Value.slice p0 n c0, Value.slice p1 m c1] 27)).heap.size = w.heap.size + 1 := by simp
  generalize hW : w.alloc (Obj.cells #[Value.slice p0 n c0, Value.slice p1 m c1] 27) = W1 at *
  replace z0 := Nat.le_antisymm_iff.1 z0
  clear hW
  go_loopw [3, 4] (fun i _ wr => ∃ k : Nat, i = .int .i64 k ∧ k ≤ n ∧ (∀ x, x < k → nodB (N x) = true) ∧ distP N k ∧ Below w.heap.size w wr ∧ Below W1.heap.size W1 wr ∧ W1.heap.size ≤ wr.heap.size) (fun i _ _ => n - (intOf i).toNat)
  case atStart => exact ⟨0, rfl, Nat.zero_le _, fun x hx => by omega, fun i j hij hj => by omega, B0.out, Below.refl _ _, Nat.le_refl _⟩
  case round =>
    obtain ⟨k, rfl, hk, hall, hdist, hbel, hbel1, hsz⟩ := hrel
    have HA := Lib.hid hall
    have HD := Lib.hid hdist
    have HB := Lib.hid hbel
    have HB1 := Lib.hid hbel1
    clear hbel hbel1 hall hdist
    obtain ⟨wo, hwo⟩ : ∃ wo : World, wo = wr := ⟨_, rfl⟩
    have f0 := (A0.out.below HB1.out (by omega)).b0
    have f1 := (A0.out.below HB1.out (by omega)).b1
    have hsw : w.heap.size < wr.heap.size := by omega
    by_cases hlt : k < n
    · rcases HC0.out with h0 | ⟨b, o, rfl, g1, g2, g3⟩
      · omega
      have G3 := Lib.hid g3
      clear g3
      have hx : ∀ j, j < 3 → wr.cell? ⟨b, o + k * 3 + j, none⟩ = some (nodC N k j) := fun j hj => (HB.out.cell (p := ⟨b, o + k * 3 + j, none⟩) (by show b < _; omega)).trans (G3.out.cell k j hlt hj)
      have hx0 : wr.cell? ⟨b, o + k * 3, none⟩ = some (.string (N k).s) := hx 0 (by omega)
      have hx1 : wr.cell? ⟨b, o + k * 3 + 1, none⟩ = some (.int .i64 (N k).lo) := hx 1 (by omega)
      have hx2 : wr.cell? ⟨b, o + k * 3 + 2, none⟩ = some (.int .i64 (N k).hi) := hx 2 (by omega)
      clear hx
      cases hnb : nodB (N k)
      all_goals
        have HNB := Lib.hid hnb
        have HS := Lib.hid (HN.out k hlt)
        go_wp2_with fail
        refine (sIsNode_any (N k) _ HS.out).mono ?_
        rintro e w2 ⟨rfl, b2⟩
        have C1 := Lib.hid (HB.out.trans (b2.mono (by omega)))
        have C2 := Lib.hid (HB1.out.trans (b2.mono (by omega)))
        have hs2 := b2.size
        clear b2 hx0 hx1 hx2 f0 f1
        go_wp2_with fail
      · go_ret
        exact ⟨ret_b (by rw [HU.out, HSZ.out, nodesB_no hlt HNB.out]; rfl), C1.out⟩
      · have hs3 : W1.heap.size ≤ w2.heap.size := by omega
        have f0 := (A0.out.below C2.out (by omega)).b0
        have f1 := (A0.out.below C2.out (by omega)).b1
        have hx : ∀ x j, x < n → j < 3 → w2.cell? ⟨b, o + x * 3 + j, none⟩ = some (nodC N x j) := fun x j hx hj => (C1.out.cell (p := ⟨b, o + x * 3 + j, none⟩) (by show b < _; omega)).trans (G3.out.cell x j hx hj)
        have HX := Lib.hid hx
        have hy : w2.cell? ⟨b, o + k * 3, none⟩ = some (.string (N k).s) := hx k 0 hlt (by omega)
        clear hx hsz hs2 hsw hwo
        go_loopw [4] (fun i wi => ∃ j r : Nat, i = .int .i64 j ∧ j ≤ k ∧ (∀ x, x < j → (N x).s ≠ (N k).s) ∧ wi = w2.drewN r) (fun i _ => k - (intOf i).toNat)
        case atStart => exact ⟨0, 0, rfl, Nat.zero_le _, fun x hx => by omega, rfl⟩
        case round =>
          obtain ⟨j, r, rfl, hj, hne, rfl⟩ := hrel
          have HNE := Lib.hid hne
          clear hne
          by_cases hjk : j < k
          · have hy2 : w2.cell? ⟨b, o + j * 3, none⟩ = some (.string (N j).s) := HX.out j 0 (by omega) (by omega)
            have i0 : (0 : Int) ≤ (j : Int) := Int.natCast_nonneg _
            have i1 : (j : Int) < (n : Int) := by omega
            have i2 : (0 : Int) ≤ (k : Int) := Int.natCast_nonneg _
            have i3 : (k : Int) < (n : Int) := by omega
            by_cases he : (N k).s = (N j).s
            · have HE := Lib.hid (nodesB_twin hjk hlt he.symm)
              have hq := list_eq he
              clear he
              go_wp2_with fail
              go_quiet (fail)
              go_wp2_with fail
              go_ret
              exact ⟨ret_b (by rw [HU.out, HSZ.out, HE.out]; rfl), below_dr (below_dr C1.out _) _⟩
            · have HE := Lib.hid he
              have hq := list_ne he
              clear he
              go_wp2_with fail
              go_quiet (fail)
              go_wp2_with fail
              go_roundw
              case rel =>
                refine ⟨j + 1, r + nq, by go_num, hjk, fun x hx => ?_, rfl⟩
                by_cases e : x = j
                · subst e; exact fun e => HE.out e.symm
                · exact HNE.out x (by omega)
              case measure => simp [intOf]; omega
          · obtain rfl : j = k := by omega
            go_wp2_with fail
            go_roundw
            case rel =>
              refine ⟨j + 1, by go_num, hlt, fun x hx => ?_, fun x y hxy hy => ?_, below_dr C1.out _, below_dr C2.out _, hs3⟩
              · by_cases e : x = j
                · subst e; exact HNB.out
                · exact HA.out x (by omega)
              · by_cases e : y = j
                · subst e; exact HNE.out x hxy
                · exact HD.out x y hxy (by omega)
            case measure => simp [intOf]; omega
    · obtain rfl : k = n := by omega
      have HNN := Lib.hid (nodesB_iff.2 ⟨HA.out, HD.out⟩)
      have HNS : Hid (netB k N m P = pipesB k P m) := by
        have e : netB k N m P = pipesB k P m := by rw [HU.out, HSZ.out, HNN.out]; rfl
        exact Lib.hid e
      go_wp2_with fail
      have hs3 := hsz
      clear hsw hwo f0 f1
      obtain ⟨wp, hwp⟩ : ∃ wp : World, wp = wr := ⟨_, rfl⟩
      rw [← hwp] at HB HB1 hs3
      rw [← hwp]
      clear hsz hwp
      go_loopw [5] (fun i wr => ∃ j : Nat, i = .int .i64 j ∧ j ≤ m ∧ (∀ x, x < j → pipB k (P x) = true) ∧ Below w.heap.size w wr ∧ Below W1.heap.size W1 wr ∧ W1.heap.size ≤ wr.heap.size) (fun i _ => m - (intOf i).toNat)
      case atStart => exact ⟨0, rfl, Nat.zero_le _, fun x hx => by omega, HB.out, HB1.out, hs3⟩
      case round =>
        obtain ⟨j, rfl, hj, hall, hbel, hbel1, hsz⟩ := hrel
        have HP := Lib.hid hall
        have CB := Lib.hid hbel
        have CB1 := Lib.hid hbel1
        clear hbel hbel1 hall HB HB1 hs3
        have f0 := (A0.out.below CB1.out (by omega)).b0
        have f1 := (A0.out.below CB1.out (by omega)).b1
        have hsw : w.heap.size < wr.heap.size := by omega
        by_cases hlt : j < m
        · rcases HC1.out with h0 | ⟨b, o, rfl, g1, g2, g3⟩
          · omega
          have G3 := Lib.hid g3
          clear g3
          have hx : ∀ y, y < 5 → wr.cell? ⟨b, o + j * 5 + y, none⟩ = some (pipC P j y) := fun y hy => (CB.out.cell (p := ⟨b, o + j * 5 + y, none⟩) (by show b < _; omega)).trans (G3.out.cell j y hlt hy)
          have hx0 : wr.cell? ⟨b, o + j * 5, none⟩ = some (.int .i64 (P j).f) := hx 0 (by omega)
          have hx1 : wr.cell? ⟨b, o + j * 5 + 1, none⟩ = some (.int .i64 (P j).t) := hx 1 (by omega)
          have hx2 : wr.cell? ⟨b, o + j * 5 + 2, none⟩ = some (.int .i64 (P j).k) := hx 2 (by omega)
          have hx3 : wr.cell? ⟨b, o + j * 5 + 3, none⟩ = some (.int .i64 (P j).v) := hx 3 (by omega)
          have hx4 : wr.cell? ⟨b, o + j * 5 + 4, none⟩ = some (.int .i64 (P j).l) := hx 4 (by omega)
          clear hx
          generalize hp : P j = q at *
          have HQ := Lib.hid hp
          clear hp
          have i0 : (0 : Int) ≤ (j : Int) := Int.natCast_nonneg _
          have i1 : (j : Int) < (m : Int) := by omega
          have hbw : b < wr.heap.size := by omega
          cases hpb : pipB k q
          all_goals
            have HPB := Lib.hid hpb
            go_wp2_with fail
            go_region_held3 (fun w' => w'.cell? ⟨w.heap.size, 0, none⟩ = some (.slice p0 k c0) ∧ w'.cell? ⟨w.heap.size, 1, none⟩ = some (.slice (some ⟨b, o, none⟩) m c1) ∧ w'.cell? ⟨b, o + j * 5, none⟩ = some (.int .i64 q.f) ∧ w'.cell? ⟨b, o + j * 5 + 1, none⟩ = some (.int .i64 q.t) ∧ w'.cell? ⟨b, o + j * 5 + 2, none⟩ = some (.int .i64 q.k) ∧ w'.cell? ⟨b, o + j * 5 + 3, none⟩ = some (.int .i64 q.v) ∧ w'.cell? ⟨b, o + j * 5 + 4, none⟩ = some (.int .i64 q.l)) (first | go_keep | (refine ⟨?_, ?_, ?_, ?_, ?_, ?_, ?_⟩ <;> (rw [hb2.cell (by simp; omega)]; assumption)))
              (first | (go_at_call 141; refine (l02Pipe_any q k _ (by omega) (by omega)).mono ?_; rintro e w2 ⟨rfl, hb2⟩))
            have C1 := Lib.hid (CB.out.trans ((below_dr0 hb2).mono (by omega)))
            have C2 := Lib.hid (CB1.out.trans ((below_dr0 hb2).mono (by omega)))
            have hs2 := hb2.size
            simp only [World.heap_drew] at hs2
            clear hb2 hx0 hx1 hx2 hx3 hx4 f0 f1
            go_wp2_with fail
          · go_ret
            exact ⟨ret_b (by rw [HNS.out, pipesB_no hlt (by rw [HQ.out]; exact HPB.out)]), C1.out⟩
          · go_roundw
            case rel =>
              refine ⟨j + 1, by go_num, hlt, fun x hx => ?_, C1.out, C2.out, by omega⟩
              by_cases e : x = j
              · subst e; rw [HQ.out]; exact HPB.out
              · exact HP.out x (by omega)
            case measure => simp [intOf]; omega
        · go_wp2_with fail
          go_ret
          exact ⟨ret_b (by rw [HNS.out, pipesB_iff.2 (fun x hx => HP.out x (by omega))]), CB.out⟩
end Go.Proofs.YtdbgcbkmcbgdiaaGreat.mem

namespace Go.Proofs.YtdbgcbkmcbgdiaaGreat.mem
open Go.RowKit
set_option linter.unusedVariables false

theorem ret_i2 {k : IntKind} {a b : Int} (h : a = b) : Ending.returned (.int k a) = .returned (.int k b) := by rw [h]

end Go.Proofs.YtdbgcbkmcbgdiaaGreat.mem

namespace Go.Proofs.YtdbgcbkmcbgdiaaGreat.mem
open Go.RowKit
set_option linter.unusedVariables false

theorem conv1 (W : World) (x : Int) (y : UInt8) (hy : (y.toNat : Int) = x) :
    Sem.run Tryz.prog (convert 22 9 (.slice (some ⟨W.heap.size, 0, none⟩) 1 1)) (W.alloc (.cells #[.int .u8 x] 5)) = .ok (.string ⟨#[y]⟩) (W.alloc (.cells #[.int .u8 x] 5)) := by
  refine run_convert_bytes_back _ 22 9 5 _ 1 [y] Tryz.underlying22 Tryz.underlying5 Tryz.underlying9 ?_
  intro j hj
  have : j = 0 := by simpa using hj
  subst this
  have e := heap_alloc_new W (.cells #[.int .u8 x] 5)
  simp only [World.cell?, Addr.add, if_true, e]
  simp [hy]
def digU (n : Nat) : UInt8 := UInt8.ofNat (48 + n)
theorem digit_nat {n : Nat} (h : n < 10) : ((digU n).toNat : Int) = 48 + (n : Int) := by
  unfold digU
  rw [UInt8.toNat_ofNat']
  omega
theorem ret_str {a b : ByteArray} (h : a = b) : Ending.returned (.string a) = .returned (.string b) := by rw [h]
-- MARKS
theorem ret_i {k : IntKind} {a b : Int} (h : a = b) : Ending.returned (.int k a) = .returned (.int k b) := by rw [h]
end Go.Proofs.YtdbgcbkmcbgdiaaGreat.mem

namespace Go.Proofs.YtdbgcbkmcbgdiaaGreat.mem
open Go.RowKit
set_option linter.unusedVariables false

end Go.Proofs.YtdbgcbkmcbgdiaaGreat.mem

namespace Go.Proofs.YtdbgcbkmcbgdiaaGreat.mem
open Go.Joins Go.ChangeShapes Go.WideShapes Go.ChangeAt Go.RowKit Go.Deep
set_option linter.unusedVariables false

section
variable {H : Type} {enc : TypeId × Value → H} {P : Program} {w : World}
end

section
variable {H : Type} {enc : TypeId × Value → H} {w : World}
end
end Go.Proofs.YtdbgcbkmcbgdiaaGreat.mem

namespace Go.Proofs.YtdbgcbkmcbgdiaaGreat.mem
open Go.RowKit
set_option linter.unusedVariables false

theorem belowNext {W w w' : World} (h : Below W.heap.size W w) (g : Below w.heap.size w w') : Below W.heap.size W w' := h.trans (g.mono h.size)
theorem Ob.next {w w' : World} {b N : Nat} {d : Nat → Value} (h : Ob w b N d) (g : Below w.heap.size w w') : Ob w' b N d := h.below g h.lt
theorem NetOwn.next {w w' : World} {v : Value} {n m b1 b2 : Nat} {N : Nat → Nod} {P : Nat → Pip} (h : NetOwn w v n N m P b1 b2) (g : Below w.heap.size w w') : NetOwn w' v n N m P b1 b2 := h.below g (Nat.le_refl _)
theorem OwnS.next {w w' : World} {v : Value} {n z b : Nat} {c : Nat → Nat → Value} (h : OwnS w v n z c b) (g : Below w.heap.size w w') : OwnS w' v n z c b := h.below g (Nat.le_refl _)
theorem NetOwn.shape {w : World} {v : Value} {n m b1 b2 : Nat} {N : Nat → Nod} {P : Nat → Pip} (h : NetOwn w v n N m P b1 b2) : ∃ p0 c0 p1 c1, v = .agg #[.slice p0 n c0, .slice p1 m c1] := by
  obtain ⟨v0, v1, rfl, g0, g1, _⟩ := h.ex
  obtain ⟨p0, c0, e0, _⟩ := g0.ex
  obtain ⟨p1, c1, e1, _⟩ := g1.ex
  exact ⟨p0, c0, p1, c1, by rw [e0, e1]⟩
theorem NetAt.shape {w : World} {v : Value} {n m lo hi : Nat} {N : Nat → Nod} {P : Nat → Pip} (h : NetAt w v n N m P lo hi) : ∃ p0 c0 p1 c1, v = .agg #[.slice p0 n c0, .slice p1 m c1] := by
  obtain ⟨v0, v1, rfl, g0, g1⟩ := h.ex
  obtain ⟨p0, c0, e0, _⟩ := g0.ex
  obtain ⟨p1, c1, e1, _⟩ := g1.ex
  exact ⟨p0, c0, p1, c1, by rw [e0, e1]⟩
theorem NetOwn.lts {w : World} {v : Value} {n m b1 b2 : Nat} {N : Nat → Nod} {P : Nat → Pip} (h : NetOwn w v n N m P b1 b2) : (n = 0 ∨ b1 < w.heap.size) ∧ (m = 0 ∨ b2 < w.heap.size) := ⟨h.lt1, h.lt2⟩

/-- the answers: a list and a code; a network and a code; two numbers; a Bool -/
def LIPost (w : World) (cnt : Nat) (d : Nat → Int) (c : Int) (e : Ending) (w' : World) : Prop :=
  ∃ v b, e = .returned (.tuple #[v, .int .i64 c]) ∧ OwnS w' v cnt 1 (fun i _ => .int .i64 (d i)) b ∧ w.heap.size ≤ b ∧ Below w.heap.size w w'
def IIPost (w : World) (a c : Int) (e : Ending) (w' : World) : Prop := e = .returned (.tuple #[.int .i64 a, .int .i64 c]) ∧ Below w.heap.size w w'
def BPost (w : World) (b : Bool) (e : Ending) (w' : World) : Prop := e = .returned (.bool b) ∧ Below w.heap.size w w'
theorem NetAt.drew {w : World} {v : Value} {n m lo hi : Nat} {N : Nat → Nod} {P : Nat → Pip} (h : NetAt w v n N m P lo hi) : NetAt w.drew v n N m P lo hi := h.below (B := hi) ⟨rfl, rfl, rfl, Nat.le_refl _, fun _ _ => rfl⟩ (Nat.le_refl _)
theorem NetOwn.drew {w : World} {v : Value} {n m b1 b2 : Nat} {N : Nat → Nod} {P : Nat → Pip} (h : NetOwn w v n N m P b1 b2) : NetOwn w.drew v n N m P b1 b2 := h.below (B := w.heap.size) ⟨rfl, rfl, rfl, Nat.le_refl _, fun _ _ => rfl⟩ (Nat.le_refl _)
end Go.Proofs.YtdbgcbkmcbgdiaaGreat.mem

namespace Go.Proofs.YtdbgcbkmcbgdiaaGreat.mem
open Go.RowKit
set_option linter.unusedVariables false

def endB (q : Pip) (x : Int) : Bool := (q.f == x) || (q.t == x)
def othV (q : Pip) (x : Int) : Int := if q.f = x then q.t else q.f
theorem endsAt_any (q : Pip) (x : Int) (w : World) : Calls Tryz.prog 112 #[.agg #[.int .i64 q.f, .int .i64 q.t, .int .i64 q.k, .int .i64 q.v, .int .i64 q.l], .int .i64 x] w fun e w' => e = .returned (.bool (endB q x)) ∧ Below w.heap.size w w' := by
  unfold endB
  cases h1 : (q.f == x)
  all_goals
    go_enter Tryz.func112, Tryz.ntmps112
    go_wp2_with fail
    go_ret
    exact ⟨ret_b (by simp), below_new _ _⟩
theorem otherEnd_any (q : Pip) (x : Int) (w : World) : Calls Tryz.prog 113 #[.agg #[.int .i64 q.f, .int .i64 q.t, .int .i64 q.k, .int .i64 q.v, .int .i64 q.l], .int .i64 x] w fun e w' => e = .returned (.int .i64 (othV q x)) ∧ Below w.heap.size w w' := by
  by_cases h : q.f = x
  · have h1 : (q.f == x) = true := by rw [beq_iff_eq]; exact h
    have HV := Lib.hid (show othV q x = q.t from if_pos h)
    clear h
    go_enter Tryz.func113, Tryz.ntmps113
    go_wp2_with fail
    go_ret
    exact ⟨ret_i2 HV.out.symm, below_new _ _⟩
  · have h1 : (q.f == x) = false := by rw [beq_eq_false_iff_ne]; exact h
    have HV := Lib.hid (show othV q x = q.f from if_neg h)
    clear h
    go_enter Tryz.func113, Tryz.ntmps113
    go_wp2_with fail
    go_ret
    exact ⟨ret_i2 HV.out.symm, below_new _ _⟩

theorem pipB_parts {n : Int} {q : Pip} (h : pipB n q = true) : (0 ≤ q.f ∧ q.f ≤ n - 1) ∧ (0 ≤ q.t ∧ q.t ≤ n - 1) ∧ q.f ≠ q.t := by
  rw [pipB_eq] at h
  simp only [Bool.and_eq_true, inR_iff, bne_iff_ne] at h
  exact ⟨h.1.1.1, h.1.1.2, h.1.2⟩
theorem net_pip {n : Nat} {N : Nat → Nod} {m : Nat} {P : Nat → Pip} (h : netB n N m P = true) {k : Nat} (hk : k < m) : pipB n (P k) = true := by
  unfold netB at h
  simp only [Bool.and_eq_true] at h
  exact pipesB_iff.1 h.2 k hk
theorem net_sz {n : Nat} {N : Nat → Nod} {m : Nat} {P : Nat → Pip} (h : netB n N m P = true) : 1 ≤ n ∧ n ≤ 24 ∧ m ≤ 40 := by
  unfold netB at h
  simp only [Bool.and_eq_true] at h
  exact szB_iff.1 h.1.1
theorem ret_2 {a b c d : Int} (h : a = b) (g : c = d) : Ending.returned (.tuple #[.int .i64 a, .int .i64 c]) = .returned (.tuple #[.int .i64 b, .int .i64 d]) := by rw [h, g]
theorem sum_other {q : Pip} {n y : Int} (h : pipB n q = true) (he : endB q y = true) : q.f + q.t - y = othV q y := by
  have := pipB_parts h
  unfold endB at he
  unfold othV
  simp only [Bool.or_eq_true, beq_iff_eq] at he
  split <;> omega

set_option maxRecDepth 100000 in
set_option maxHeartbeats 4000000 in
theorem l02Other_any (w : World) (v : Value) (n : Nat) (N : Nat → Nod) (m : Nat) (P : Nat → Pip) (lo hi : Nat) (h : NetAt w v n N m P lo hi) (hhi : hi ≤ w.heap.size) (hN : ∀ i, i < n → (N i).s.size ≤ 9223372036854775807) (hm2 : m ≤ 2000000) (k : Nat) (hkm : k < m) (y : Int) (hq : pipB n (P k) = true) (hn2 : n ≤ 2000000) (hy : inR y 0 (n - 1) = true) :
    Calls Tryz.prog 101 #[v, .int .i64 k, .int .i64 y] w fun e w' => e = .returned (.int .i64 ((P k).f + (P k).t - y)) ∧ Below w.heap.size w w' := by
  obtain ⟨v0, v1, rfl, g0, g1⟩ := h.ex
  obtain ⟨p0, c0, rfl⟩ := g0.shape
  obtain ⟨p1, c1, rfl⟩ := g1.shape
  have hn9 : n ≤ 9223372036854775807 := by
    obtain ⟨p, cap, he, q1, q2, _⟩ := g0.ex
    omega
  have hm9 : m ≤ 9223372036854775807 := by
    obtain ⟨p, cap, he, q1, q2, _⟩ := g1.ex
    omega
  have HC0 : Hid (n = 0 ∨ ∃ b o, p0 = some ⟨b, o, none⟩ ∧ lo ≤ b ∧ b < hi ∧ At w b o n 3 (nodC N)) := by
    obtain ⟨p, cap, hv, _, _, hc⟩ := g0.ex
    injection hv with e1 _ e2
    subst e1
    exact Lib.hid hc
  have HC1 : Hid (m = 0 ∨ ∃ b o, p1 = some ⟨b, o, none⟩ ∧ lo ≤ b ∧ b < hi ∧ At w b o m 5 (pipC P)) := by
    obtain ⟨p, cap, hv, _, _, hc⟩ := g1.ex
    injection hv with e1 _ e2
    subst e1
    exact Lib.hid hc
  have HV := Lib.hid h
  have HN := Lib.hid hN
  clear h g0 g1 hN
  have A0 := boxed w (.slice p0 n c0) (.slice p1 m c1) 27
  have C0 : Below w.heap.size w _ := below_new w (Obj.cells #[Value.slice p0 n c0, Value.slice p1 m c1] 27)
  have hs0 : w.heap.size + 1 ≤ (w.alloc (Obj.cells #[Value.slice p0 n c0, Value.slice p1 m c1] 27)).heap.size := by simp
  obtain ⟨⟨q1, q2⟩, ⟨q3, q4⟩, _⟩ := pipB_parts hq
  obtain ⟨q5, q6⟩ := inR_iff.1 hy
  have e1 := A0.b0
  have e2 := A0.b1
  rcases HC1.out with h0 | ⟨b, o, rfl, hlo, hb, g3⟩
  · omega
  have HX0 : Hid (w.cell? ⟨b, o + k * 5, none⟩ = some (.int .i64 (P k).f)) := Lib.hid (g3.cell k 0 hkm (by omega))
  have HX1 : Hid (w.cell? ⟨b, o + k * 5 + 1, none⟩ = some (.int .i64 (P k).t)) := Lib.hid (g3.cell k 1 hkm (by omega))
  have HX2 : Hid (w.cell? ⟨b, o + k * 5 + 2, none⟩ = some (.int .i64 (P k).k)) := Lib.hid (g3.cell k 2 hkm (by omega))
  have HX3 : Hid (w.cell? ⟨b, o + k * 5 + 3, none⟩ = some (.int .i64 (P k).v)) := Lib.hid (g3.cell k 3 hkm (by omega))
  have HX4 : Hid (w.cell? ⟨b, o + k * 5 + 4, none⟩ = some (.int .i64 (P k).l)) := Lib.hid (g3.cell k 4 hkm (by omega))
  clear g3
  have r1 : IntKind.i64.wrap ((P k).f + (P k).t) = (P k).f + (P k).t := IntWalk.i64_in _ (by omega)
  have r2 : IntKind.i64.wrap ((P k).f + (P k).t - y) = (P k).f + (P k).t - y := IntWalk.i64_in _ (by omega)
  have i0 : (0 : Int) ≤ (k : Int) := Int.natCast_nonneg _
  have i1 : (k : Int) < (m : Int) := by omega
  have x0 := HX0.out
  have x1 := HX1.out
  have hbw : b < w.heap.size := by omega
  clear q1 q2 q3 q4 q5 q6 hq hy
  go_enter Tryz.func101, Tryz.ntmps101
  go_wp2_with fail
  go_quiet (fail)
  go_wp2_with fail
  go_ret
  exact ⟨rfl, below_dr C0 _⟩

end Go.Proofs.YtdbgcbkmcbgdiaaGreat.mem

namespace Go.Proofs.YtdbgcbkmcbgdiaaGreat.mem
open Go.RowKit
set_option linter.unusedVariables false

/-- n zeros -/
def zeros (n : Nat) : Array Value := madeCells #[.int .i64 0] n
theorem info_make_int64 : (Tryz.prog.info? 2).map (fun i => (i.zero, i.size, i.bytes)) = some (some (.int .i64 0), 1, 8) := by kernel_rfl
theorem make_int64 (W : World) (n : Nat) (hn : n ≤ 2000000) : Sem.run Tryz.prog (Instr.makeSlice 28 (.int .i64 n) (.int .i64 n)) W = .ok (.slice (some ⟨W.heap.size, 0, none⟩) n n) (W.alloc (.cells (zeros n) 2)) := by
  obtain ⟨i0, hi, hz0, hz1, hz2⟩ := info_parts info_make_int64
  have h := run_make (P := Tryz.prog) W 28 2 i0 (.int .i64 0) Tryz.underlying28 hi hz0 .i64 .i64 (n : Int) (n : Int) (by omega) (Int.le_refl _) (by rw [hz2]; omega) (by omega)
  rw [hz1] at h
  simpa [zeros, Value.cells] using h
theorem zeros_get (n k : Nat) (h : k < n) : (zeros n)[k]? = some (.int .i64 0) := by
  unfold zeros madeCells
  have : k % 1 = 0 := Nat.mod_one k
  simp [h, this]
end Go.Proofs.YtdbgcbkmcbgdiaaGreat.mem

namespace Go.Proofs.YtdbgcbkmcbgdiaaGreat.mem
open Go.RowKit
set_option linter.unusedVariables false

/-- v is a slice of the call's own in block g, with the elements d 0, .., d (n - 1) -/
structure Own (w : World) (v : Value) (n : Nat) (d : Nat → Int) (g : Nat) : Prop where
  ex : ∃ cap cur, v = .slice (some ⟨g, 0, none⟩) n cap ∧ w.heap[g]? = some (.cells cur 2 (0, 0)) ∧ n ≤ cap ∧ cap ≤ maxLen ∧ cur.size = cap ∧ ∀ k, k < n → cur[k]? = some (.int .i64 (d k))
theorem Own.lt {w : World} {v : Value} {n g : Nat} {d : Nat → Int} (h : Own w v n d g) : g < w.heap.size := by
  obtain ⟨_, _, _, h1, _⟩ := h.ex
  exact (Array.getElem?_eq_some_iff.1 h1).1
theorem Own.shape {w : World} {v : Value} {n g : Nat} {d : Nat → Int} (h : Own w v n d g) : ∃ cap, v = .slice (some ⟨g, 0, none⟩) n cap := by
  obtain ⟨c, _, e, _⟩ := h.ex
  exact ⟨c, e⟩
theorem Own.row {w : World} {v : Value} {n g : Nat} {d : Nat → Int} (h : Own w v n d g) : Row w g n d := by
  obtain ⟨cap, cur, _, h1, _, _, _, h2⟩ := h.ex
  refine ⟨fun k hk => ?_, fun k hk => ?_⟩
  · simp only [World.cell?, h1]
    simpa using h2 k hk
  · simp [World.frozen?, h1]
theorem Own.keep {w w' : World} {v : Value} {n g : Nat} {d : Nat → Int} (h : Own w v n d g) (e : w'.heap[g]? = w.heap[g]?) : Own w' v n d g := by
  obtain ⟨cap, cur, h0, h1, h2⟩ := h.ex
  exact ⟨cap, cur, h0, by rw [e]; exact h1, h2⟩
theorem Own.congr {w : World} {v : Value} {n g : Nat} {d e : Nat → Int} (h : Own w v n d g) (he : ∀ k, k < n → d k = e k) : Own w v n e g := by
  obtain ⟨cap, cur, h0, h1, h2, h3, h4, h5⟩ := h.ex
  exact ⟨cap, cur, h0, h1, h2, h3, h4, fun k hk => by rw [← he k hk]; exact h5 k hk⟩
theorem Own.alloc {w : World} {v : Value} {n g : Nat} {d : Nat → Int} (h : Own w v n d g) (o : Obj) : Own (w.alloc o) v n d g := h.keep (Below.heap_alloc _ _ _ h.lt)
theorem Own.nilled (w : World) (d : Nat → Int) : Own (w.alloc (.cells #[] 2)) (.slice (some ⟨w.heap.size, 0, none⟩) 0 0) 0 d w.heap.size :=
  ⟨0, #[], rfl, heap_alloc_new w _, Nat.le_refl _, by unfold maxLen; omega, rfl, fun k hk => by omega⟩

theorem szal (w : World) (o : Obj) : (w.alloc o).heap.size = w.heap.size + 1 := by simp
theorem size_zeroCells (z : Array Value) (n : Nat) : (Builtin.zeroCells z n).size = n * z.size := by simp [Builtin.zeroCells]

/-- what an append of one number leaves -/
structure App (W w' : World) (v' : Value) (n : Nat) (d : Nat → Int) (x : Int) (g g' : Nat) : Prop where
  own : Own w' v' (n + 1) (upd d n x) g'
  how : (g' = g ∧ Only g W w') ∨ (g' = W.heap.size ∧ Below W.heap.size W w' ∧ w'.heap.size = W.heap.size + 1)
theorem App.own' {W w' : World} {v' : Value} {n : Nat} {d : Nat → Int} {g g' : Nat} (h : App W w' v' n d (d n) g g') : Own w' v' (n + 1) d g' :=
  h.own.congr (fun k hk => by unfold upd; split <;> simp_all)
theorem App.below {W w' : World} {v' : Value} {n : Nat} {d : Nat → Int} {x : Int} {g g' B : Nat} (h : App W w' v' n d x g g') (hB : B ≤ g) (hg : g ≤ W.heap.size) : Below B W w' ∧ B ≤ g' := by
  rcases h.how with ⟨rfl, h⟩ | ⟨rfl, h, _⟩
  · exact ⟨h.below hB, hB⟩
  · exact ⟨h.mono (by omega), by omega⟩
theorem App.other {W w' : World} {v' : Value} {n : Nat} {d : Nat → Int} {x : Int} {g g' c : Nat} (h : App W w' v' n d x g g') (hc : c ≠ g) (hl : c < W.heap.size) : w'.heap[c]? = W.heap[c]? ∧ c ≠ g' := by
  rcases h.how with ⟨rfl, h⟩ | ⟨rfl, h, _⟩
  · exact ⟨h.block c hc, hc⟩
  · exact ⟨h.block c hl, by omega⟩

theorem app_run (W : World) (v : Value) (n : Nat) (d : Nat → Int) (g : Nat) (x : Int) (b : Nat) (h : Own W v n d g) (hx : W.cell? ⟨b, 0, none⟩ = some (.int .i64 x)) (hn : n ≤ 1000000) :
    ∃ v' w' g', Sem.run Tryz.prog (Builtin.append_ #[28, 28] 28 #[v, .slice (some ⟨b, 0, none⟩) 1 1]) W = .ok v' w' ∧ App W w' v' n d x g g' := by
  obtain ⟨cap, cur, rfl, h1, h2, h3, h4, h5⟩ := h.ex
  obtain ⟨i0, hi, hz0, hz1, hz2⟩ := info_parts info_make_int64
  have hnews : ∀ j u, [Value.int .i64 x][j]? = some u → W.cell? ((⟨b, 0, none⟩ : Addr).add j) = some u := by
    intro j u hu
    have hj : j = 0 := by
      rcases Nat.eq_zero_or_pos j with e | e
      · exact e
      · rw [List.getElem?_eq_none (by simp; omega)] at hu; cases hu
    subst hj
    simp at hu
    subst hu
    simpa [Addr.add] using hx
  by_cases hroom : n + 1 ≤ cap
  · have hr := run_append_room (P := Tryz.prog) W 28 28 2 i0 Tryz.underlying28 hi g n cap cur h1 ⟨b, 0, none⟩ 1 1 [.int .i64 x] (by rw [hz1]; rfl) hnews (by intro u hu; simp at hu; subst hu; rfl) hroom (by rw [hz1, h4]; simp; omega)
    rw [hz1] at hr
    refine ⟨_, _, g, hr, ⟨⟨cap, _, rfl, setRow_heap W g cur _ _ _ h1, hroom, h3, ?_, fun k hk => ?_⟩, .inl ⟨rfl, ⟨rfl, rfl, rfl, by simp, fun k hk => setRow_other W g k _ hk⟩⟩⟩⟩
    · simp only [List.size_toArray, List.length_append, List.length_take, List.length_drop, Array.length_toList, List.length_cons, List.length_nil]
      omega
    · have hl : (cur.toList.take (n * 1)).length = n := by rw [List.length_take, Array.length_toList]; omega
      simp only [List.getElem?_toArray, List.append_assoc]
      unfold upd
      by_cases e : k = n
      · subst e
        rw [if_pos rfl, List.getElem?_append_right (by omega), hl, Nat.sub_self]
        rfl
      · rw [if_neg e, List.getElem?_append_left (by omega), List.getElem?_take_of_lt (by omega), Array.getElem?_toList]
        exact h5 k (by omega)
  · have holds : ∀ j u, (cur.toList.take n)[j]? = some u → W.cell? ((⟨g, 0, none⟩ : Addr).add j) = some u := by
      intro j u hu
      have hadd : (⟨g, 0, none⟩ : Addr).add j = ⟨g, j, none⟩ := by unfold Addr.add; split <;> simp_all
      rw [hadd]
      simp only [World.cell?, h1]
      rw [List.getElem?_take] at hu
      split at hu
      · simpa using hu
      · cases hu
    have hlt : (cur.toList.take n).length = n := by rw [List.length_take, Array.length_toList]; omega
    have hr := run_append_grow (P := Tryz.prog) W 28 28 2 i0 (.int .i64 0) Tryz.underlying28 hi hz0 ⟨g, 0, none⟩ n cap (cur.toList.take n) (by rw [hz1, hlt]; omega) holds ⟨b, 0, none⟩ 1 1 [.int .i64 x] (by rw [hz1]; rfl) hnews (by omega) (by omega) (growslice_fits (by omega) (by rw [hz2]; omega))
    refine ⟨_, _, W.heap.size, hr, ⟨⟨_, _, rfl, heap_alloc_new W.drew _, ?_, ?_, ?_, fun k hk => ?_⟩, .inr ⟨rfl, ?_, ?_⟩⟩⟩
    · exact grownCap_ge W (n + 1) cap _
    · exact grownCap_le_maxLen W (n + 1) cap _ (by unfold maxLen; omega)
    · have hge := grownCap_ge W (n + 1) cap 2
      simp only [Array.size_append, List.size_toArray, size_zeroCells, Value.cells, hlt, List.length_cons, List.length_nil]
      omega
    · unfold upd
      by_cases e : k = n
      · subst e
        rw [if_pos rfl, Array.getElem?_append_left (by simp [hlt]), Array.getElem?_append_right (by simp [hlt])]
        simp [hlt]
      · rw [if_neg e, Array.getElem?_append_left (by simp [hlt]; omega), Array.getElem?_append_left (by simp [hlt]; omega), List.getElem?_toArray, List.getElem?_take_of_lt (by omega), Array.getElem?_toList]
        exact h5 k (by omega)
    · exact ((Below.refl _ W).drew).alloc (Nat.le_refl _) _
    · show (W.heap.push _).size = _
      simp
/-- at the operation, for the walk: an append whose run is known -/
theorem wpList_app {ops : Array Oper} {rest : List Oper} {o : Oper} {a : Act} {Q : Exit → Act → World → Prop} {w w' : World} {v v' xv : Value} (hr : Sem.run Tryz.prog (Builtin.append_ #[28, 28] 28 #[v, xv]) w = .ok v' w')
    (hgd : o.guard = none) (s x : Operand) (ho : o.op = .call { callee := .builtin .append, args := #[s, x], argTypes := #[28, 28] }) (hty : o.type = 28) (hs : a.eval s = v) (hx : a.eval x = xv)
    (h : wpList Tryz.prog ops Q rest (a.put o.dst v') w') : wpList Tryz.prog ops Q (o :: rest) a w := by
  refine wpList_plain hgd fun K hK => ?_
  unfold Oper.wp execOp
  simp only [ho, hty, resolve, invoke, builtin, Sem.run_bind, Sem.run_pure, Result.andThen_ok, List.map_toArray, List.map_cons, List.map_nil, hs, hx, hr]
  exact hK _ _ h
end Go.Proofs.YtdbgcbkmcbgdiaaGreat.mem

namespace Go.Proofs.YtdbgcbkmcbgdiaaGreat.mem
open Go.RowKit
set_option linter.unusedVariables false

/-- the indices below k that meet p -/
def fl (p : Nat → Bool) (k : Nat) : List Nat := (List.range k).filter p
def fd (p : Nat → Bool) (k : Nat) (j : Nat) : Int := (((fl p k)[j]?).getD 0 : Nat)
theorem fl_yes {p : Nat → Bool} {k : Nat} (h : p k = true) : fl p (k + 1) = fl p k ++ [k] := by
  unfold fl
  rw [List.range_succ, List.filter_append]
  simp [h]
theorem fl_no {p : Nat → Bool} {k : Nat} (h : p k = false) : fl p (k + 1) = fl p k := by
  unfold fl
  rw [List.range_succ, List.filter_append]
  simp [h]
theorem fl_le (p : Nat → Bool) (k : Nat) : (fl p k).length ≤ k := by
  unfold fl
  exact Nat.le_trans (List.length_filter_le _ _) (by simp)
theorem fl_app {p : Nat → Bool} {k g g' : Nat} {W w' : World} {v' : Value} (hp : p k = true) (h : App W w' v' (fl p k).length (fd p k) k g g') : Own w' v' (fl p (k + 1)).length (fd p (k + 1)) g' := by
  have e : (fl p (k + 1)).length = (fl p k).length + 1 := by rw [fl_yes hp]; simp
  rw [e]
  refine h.own.congr fun j hj => ?_
  unfold upd fd
  rw [fl_yes hp]
  by_cases hjn : j = (fl p k).length
  · subst hjn
    simp
  · rw [if_neg hjn, List.getElem?_append_left (by omega)]
theorem fl_keep {p : Nat → Bool} {k g : Nat} {w : World} {v : Value} (hp : p k = false) (h : Own w v (fl p k).length (fd p k) g) : Own w v (fl p (k + 1)).length (fd p (k + 1)) g := by
  have e := fl_no hp
  unfold fd
  rw [e]
  exact h
theorem Own.ownS {w : World} {v : Value} {n g : Nat} {d : Nat → Int} (h : Own w v n d g) : OwnS w v n 1 (fun i _ => .int .i64 (d i)) g := by
  obtain ⟨cap, cur, rfl, h1, h2, h3, h4, h5⟩ := h.ex
  refine ⟨_, cap, rfl, h2, by simpa [maxLen] using h3, .inr ⟨rfl, ⟨cap, fun k => (cur[k]?).getD default, by omega, ⟨cur, _, h1, h4, fun k hk => ?_⟩, fun i j hi hj => ?_⟩⟩⟩
  · rw [Array.getElem?_eq_getElem (by omega)]
    rfl
  · obtain rfl : j = 0 := by omega
    show (cur[i * 1 + 0]?).getD default = _
    rw [Nat.mul_one, Nat.add_zero, h5 i hi]
    rfl
theorem cell_new1 (w : World) (x : Int) : (w.alloc (.cells #[.int .i64 x] 2)).cell? ⟨w.heap.size, 0, none⟩ = some (.int .i64 x) := by
  have := heap_alloc_new w (Obj.cells #[.int .i64 x] 2)
  simp only [World.cell?, this]
  simp
theorem Own.below {w w' : World} {v : Value} {n g B : Nat} {d : Nat → Int} (h : Own w v n d g) (k : Below B w w') (hB : w.heap.size ≤ B) : Own w' v n d g := h.keep (k.block g (by have := h.lt; omega))
/-- an append of the index k to what has been collected, behind the one-cell block of k -/
theorem coll_run (w : World) (v : Value) (p : Nat → Bool) (k g : Nat) (h : Own w v (fl p k).length (fd p k) g) (hk : k ≤ 1000000) :
    ∃ v' w' g', Sem.run Tryz.prog (Builtin.append_ #[28, 28] 28 #[v, .slice (some ⟨w.heap.size, 0, none⟩) 1 1]) (w.alloc (.cells #[.int .i64 k] 2)) = .ok v' w' ∧
      App (w.alloc (.cells #[.int .i64 k] 2)) w' v' (fl p k).length (fd p k) k g g' :=
  app_run _ v _ _ g k w.heap.size (h.alloc _) (cell_new1 w k) (Nat.le_trans (fl_le p k) hk)
theorem coll_below {w w' : World} {v' : Value} {p : Nat → Bool} {k g g' B : Nat} (h : App (w.alloc (.cells #[.int .i64 k] 2)) w' v' (fl p k).length (fd p k) k g g') (hB : B ≤ g) (hg : g < w.heap.size) : Below B w w' ∧ B ≤ g' ∧ w.heap.size ≤ w'.heap.size := by
  have y := h.below (B := B) hB (by rw [szal]; omega)
  refine ⟨((Below.refl _ w).alloc (by omega) _).trans y.1, y.2, ?_⟩
  have := y.1.size
  rw [szal] at this
  omega
end Go.Proofs.YtdbgcbkmcbgdiaaGreat.mem

namespace Go.Proofs.YtdbgcbkmcbgdiaaGreat.mem
open Go.RowKit
set_option linter.unusedVariables false

def paP (P : Nat → Pip) (x : Int) (i : Nat) : Bool := endB (P i) x
theorem li_err {w w' : World} {cnt : Nat} {d : Nat → Int} {c c' : Int} {e : Ending} (h0 : cnt = 0) (hc : c = c') (he : e = .returned (.tuple #[.slice none 0 0, .int .i64 c])) (hb : Below w.heap.size w w') : LIPost w cnt d c' e w' := by
  subst h0 hc
  exact ⟨_, w.heap.size, he, OwnS.none_ _ _ _ _, Nat.le_refl _, hb⟩
theorem li_ok {w w' : World} {v : Value} {cnt n g : Nat} {d : Nat → Int} {c : Int} {e : Ending} (h0 : n = cnt) (he : e = .returned (.tuple #[v, .int .i64 c])) (h : Own w' v n d g) (hg : w.heap.size ≤ g) (hb : Below w.heap.size w w') : LIPost w cnt d c e w' := by
  subst h0
  exact ⟨_, g, he, h.ownS, hg, hb⟩

set_option maxRecDepth 100000 in
set_option maxHeartbeats 2000000 in
theorem l02At_any (w : World) (v : Value) (n : Nat) (N : Nat → Nod) (m : Nat) (P : Nat → Pip) (lo hi : Nat) (h : NetAt w v n N m P lo hi) (hhi : hi ≤ w.heap.size) (hN : ∀ i, i < n → (N i).s.size ≤ 9223372036854775807) (hm2 : m ≤ 1000000) (x : Int) :
    Calls Tryz.prog 147 #[v, .int .i64 x] w fun e w' => ∃ v' g, e = .returned v' ∧ Own w' v' (fl (paP P x) m).length (fd (paP P x) m) g ∧ w.heap.size ≤ g ∧ Below w.heap.size w w' := by
  obtain ⟨v0, v1, rfl, g0, g1⟩ := h.ex
  obtain ⟨p0, c0, rfl⟩ := g0.shape
  obtain ⟨p1, c1, rfl⟩ := g1.shape
  have hn9 : n ≤ 9223372036854775807 := by
    obtain ⟨p, cap, he, q1, q2, _⟩ := g0.ex
    omega
  have hm9 : m ≤ 9223372036854775807 := by
    obtain ⟨p, cap, he, q1, q2, _⟩ := g1.ex
    omega
  have HC0 : Hid (n = 0 ∨ ∃ b o, p0 = some ⟨b, o, none⟩ ∧ lo ≤ b ∧ b < hi ∧ At w b o n 3 (nodC N)) := by
    obtain ⟨p, cap, hv, _, _, hc⟩ := g0.ex
    injection hv with e1 _ e2
    subst e1
    exact Lib.hid hc
  have HC1 : Hid (m = 0 ∨ ∃ b o, p1 = some ⟨b, o, none⟩ ∧ lo ≤ b ∧ b < hi ∧ At w b o m 5 (pipC P)) := by
    obtain ⟨p, cap, hv, _, _, hc⟩ := g1.ex
    injection hv with e1 _ e2
    subst e1
    exact Lib.hid hc
  have HV := Lib.hid h
  have HN := Lib.hid hN
  clear h g0 g1 hN
  go_enter Tryz.func147, Tryz.ntmps147
  go_wp2_with fail
  have F0 := Own.nilled (w.alloc (Obj.cells #[Value.slice p0 n c0, Value.slice p1 m c1] 27)) (fd (paP P x) 0)
  simp only [szal] at F0
  have A3 := (boxed w (.slice p0 n c0) (.slice p1 m c1) 27).keep (Below.heap_alloc (w.alloc (Obj.cells #[Value.slice p0 n c0, Value.slice p1 m c1] 27)) (Obj.cells #[] 2) _ (by simp))
  have C3 := bel2 w (Obj.cells #[Value.slice p0 n c0, Value.slice p1 m c1] 27) (Obj.cells #[] 2)
  have hs3 : w.heap.size + 2 ≤ ((w.alloc (Obj.cells #[Value.slice p0 n c0, Value.slice p1 m c1] 27)).alloc (Obj.cells #[] 2)).heap.size := by simp
  generalize hW : ((w.alloc (Obj.cells #[Value.slice p0 n c0, Value.slice p1 m c1] 27)).alloc (Obj.cells #[] 2)) = W3 at *
  clear hW
  go_loopw [6, 5] (fun i out wr => ∃ (k g : Nat) (out' : Value), i = .int .i64 k ∧ out' = out ∧ k ≤ m ∧ Own wr out' (fl (paP P x) k).length (fd (paP P x) k) g ∧ w.heap.size < g ∧ Below w.heap.size w wr ∧ Ob wr w.heap.size 2 (bx (.slice p0 n c0) (.slice p1 m c1)) ∧ w.heap.size + 1 ≤ wr.heap.size) (fun i _ _ => m - (intOf i).toNat)
  case atStart => exact ⟨0, w.heap.size + 1, _, rfl, rfl, Nat.zero_le _, F0, by omega, C3, A3, by omega⟩
  case round =>
    obtain ⟨k, g, out, rfl, rfl, hk, ho, hg, hbel, hbox, hsz⟩ := hrel
    obtain ⟨co, rfl⟩ := ho.shape
    have HO := Lib.hid ho
    have HB := Lib.hid hbel
    have HX := Lib.hid hbox
    have hgl := ho.lt
    have e0 := hbox.b0
    have e1 := hbox.b1
    clear ho hbel hbox
    by_cases hlt : k < m
    · rcases HC1.out with h0 | ⟨b, o, rfl, hlo, hb, g3⟩
      · omega
      have y0 : wr.cell? ⟨b, o + k * 5, none⟩ = some (.int .i64 (P k).f) := (HB.out.cell (p := ⟨b, o + k * 5, none⟩) (Nat.lt_of_lt_of_le hb hhi)).trans (g3.cell k 0 hlt (by omega))
      have y1 : wr.cell? ⟨b, o + k * 5 + 1, none⟩ = some (.int .i64 (P k).t) := (HB.out.cell (p := ⟨b, o + k * 5 + 1, none⟩) (Nat.lt_of_lt_of_le hb hhi)).trans (g3.cell k 1 hlt (by omega))
      have y2 : wr.cell? ⟨b, o + k * 5 + 2, none⟩ = some (.int .i64 (P k).k) := (HB.out.cell (p := ⟨b, o + k * 5 + 2, none⟩) (Nat.lt_of_lt_of_le hb hhi)).trans (g3.cell k 2 hlt (by omega))
      have y3 : wr.cell? ⟨b, o + k * 5 + 3, none⟩ = some (.int .i64 (P k).v) := (HB.out.cell (p := ⟨b, o + k * 5 + 3, none⟩) (Nat.lt_of_lt_of_le hb hhi)).trans (g3.cell k 3 hlt (by omega))
      have y4 : wr.cell? ⟨b, o + k * 5 + 4, none⟩ = some (.int .i64 (P k).l) := (HB.out.cell (p := ⟨b, o + k * 5 + 4, none⟩) (Nat.lt_of_lt_of_le hb hhi)).trans (g3.cell k 4 hlt (by omega))
      clear g3
      cases hp : paP P x k
      · have HPK := Lib.hid hp
        have h5 : ((P k).f == x) = false := by unfold paP endB at hp; simp only [Bool.or_eq_false_iff] at hp; exact hp.1
        have h6 : ((P k).t == x) = false := by unfold paP endB at hp; simp only [Bool.or_eq_false_iff] at hp; exact hp.2
        clear hp
        go_wp2_with fail
        go_roundw
        case rel => exact ⟨k + 1, g, _, by go_num, rfl, hlt, fl_keep HPK.out HO.out, hg, HB.out, HX.out, by omega⟩
        case measure => simp [intOf]; omega
      · have HPK := Lib.hid hp
        obtain ⟨v5, w5, g5, hr, ap⟩ := coll_run wr _ (paP P x) k g HO.out (by omega)
        have Y := Lib.hid (coll_below (B := w.heap.size + 1) ap hg (by omega))
        have O5 := Lib.hid (fl_app HPK.out ap)
        have hs5 := Y.out.2.2
        have hg5 := Y.out.2.1
        clear ap
        cases h5 : ((P k).f == x)
        rotate_left 1
        have h6 : True := trivial
        rotate_left 1
        have h6 : ((P k).t == x) = true := by unfold paP endB at hp; rw [h5] at hp; simpa using hp
        all_goals
          clear hp
          go_wp2_with (at_builtin; refine wpList_app hr rfl _ _ rfl rfl rfl rfl ?_)
          go_roundw
          case rel => exact ⟨k + 1, g5, v5, by go_num, rfl, hlt, O5.out, by omega, HB.out.trans (Y.out.1.mono (by omega)), HX.out.below Y.out.1 (by omega), by omega⟩
          case measure => simp [intOf]; omega
    · obtain rfl : k = m := by omega
      go_wp2_with fail
      go_ret
      exact ⟨_, g, rfl, HO.out, by omega, HB.out⟩
end Go.Proofs.YtdbgcbkmcbgdiaaGreat.mem

namespace Go.Proofs.YtdbgcbkmcbgdiaaGreat.mem
open Go.RowKit
set_option linter.unusedVariables false

/-- a visit: the node, its entry, its distance -/
structure Vs where
  nd : Int
  en : Int
  ds : Int
def vhas (fs : List Vs) (y : Int) : Bool := fs.any (fun v => v.nd == y)
def vadd (P : Nat → Pip) (v : Vs) (fs : List Vs) (k : Nat) : List Vs :=
  if endB (P k) v.nd && !(vhas fs (othV (P k) v.nd)) then fs ++ [⟨othV (P k) v.nd, k, v.ds + 1⟩] else fs
def vrow (P : Nat → Pip) (v : Vs) (k : Nat) (fs : List Vs) : List Vs := (List.range k).foldl (vadd P v) fs
def vup (P : Nat → Pip) (m : Nat) (x : Int) : Nat → List Vs
  | 0 => [⟨x, -1, 0⟩]
  | i + 1 => match (vup P m x i)[i]? with
    | some v => vrow P v m (vup P m x i)
    | none => vup P m x i
/-- all visits of the search from x -/
def vis (n : Nat) (P : Nat → Pip) (m : Nat) (x : Int) : List Vs := vup P m x n

theorem vrow_succ (P : Nat → Pip) (v : Vs) (k : Nat) (fs : List Vs) : vrow P v (k + 1) fs = vadd P v (vrow P v k fs) k := by
  unfold vrow
  rw [List.range_succ, List.foldl_append]
  rfl
theorem vup_succ {P : Nat → Pip} {m : Nat} {x : Int} {i : Nat} {v : Vs} (h : (vup P m x i)[i]? = some v) : vup P m x (i + 1) = vrow P v m (vup P m x i) := by
  show (match (vup P m x i)[i]? with | some v => vrow P v m (vup P m x i) | none => vup P m x i) = _
  rw [h]
theorem vup_stop {P : Nat → Pip} {m : Nat} {x : Int} {i : Nat} (h : (vup P m x i).length ≤ i) : vup P m x (i + 1) = vup P m x i := by
  show (match (vup P m x i)[i]? with | some v => vrow P v m (vup P m x i) | none => vup P m x i) = _
  rw [List.getElem?_eq_none h]
theorem vhas_app (fs : List Vs) (w : Vs) (y : Int) : vhas (fs ++ [w]) y = (vhas fs y || (w.nd == y)) := by simp [vhas]
theorem vhas_iff {fs : List Vs} {y : Int} : vhas fs y = true ↔ ∃ v ∈ fs, v.nd = y := by simp [vhas]
theorem vadd_pre (P : Nat → Pip) (v : Vs) (fs : List Vs) (k : Nat) : fs <+: vadd P v fs k := by
  unfold vadd
  split
  · exact List.prefix_append _ _
  · exact List.prefix_refl _
theorem vrow_pre (P : Nat → Pip) (v : Vs) (fs : List Vs) : ∀ k, fs <+: vrow P v k fs
  | 0 => List.prefix_refl _
  | k + 1 => by rw [vrow_succ]; exact (vrow_pre P v fs k).trans (vadd_pre P v _ k)
theorem vup_pre1 (P : Nat → Pip) (m : Nat) (x : Int) (i : Nat) : vup P m x i <+: vup P m x (i + 1) := by
  cases h : (vup P m x i)[i]? with
  | none => rw [vup_stop (by simpa using h)]; exact List.prefix_refl _
  | some v => rw [vup_succ h]; exact vrow_pre P v _ m
theorem vup_pre (P : Nat → Pip) (m : Nat) (x : Int) (i : Nat) : ∀ j, vup P m x i <+: vup P m x (i + j)
  | 0 => List.prefix_refl _
  | j + 1 => (vup_pre P m x i j).trans (vup_pre1 P m x (i + j))
theorem vup_stay {P : Nat → Pip} {m : Nat} {x : Int} {i : Nat} (h : (vup P m x i).length ≤ i) : ∀ j, vup P m x (i + j) = vup P m x i
  | 0 => rfl
  | j + 1 => by
    have := vup_stay h j
    show vup P m x (i + j + 1) = _
    rw [vup_stop (by rw [this]; omega), this]
theorem pre_get {α : Type} {a b : List α} (h : a <+: b) {i : Nat} {v : α} (hv : a[i]? = some v) : b[i]? = some v := by
  obtain ⟨t, rfl⟩ := h
  have : i < a.length := by
    rcases Nat.lt_or_ge i a.length with h | h
    · exact h
    · rw [List.getElem?_eq_none h] at hv; cases hv
  rw [List.getElem?_append_left this]
  exact hv

/-- visits of nodes of a network of n nodes, each node once; each but the first comes of an earlier one by its entry -/
structure Vok (n : Nat) (P : Nat → Pip) (m : Nat) (x : Int) (fs : List Vs) : Prop where
  rng : ∀ v ∈ fs, 0 ≤ v.nd ∧ v.nd ≤ (n : Int) - 1
  dis : fs.Pairwise (fun a b => a.nd ≠ b.nd)
  fst : fs[0]? = some ⟨x, -1, 0⟩
  par : ∀ i v, 0 < i → fs[i]? = some v → ∃ j u k, j < i ∧ fs[j]? = some u ∧ k < m ∧ v.en = ((k : Nat) : Int) ∧ endB (P k) u.nd = true ∧ v.nd = othV (P k) u.nd ∧ v.ds = u.ds + 1
theorem Vok.app {n : Nat} {P : Nat → Pip} {m : Nat} {x : Int} {fs : List Vs} (h : Vok n P m x fs) {j k : Nat} {u : Vs} (hu : fs[j]? = some u) (hk : k < m) (he : endB (P k) u.nd = true) (hn : vhas fs (othV (P k) u.nd) = false)
    (hr : 0 ≤ othV (P k) u.nd ∧ othV (P k) u.nd ≤ (n : Int) - 1) : Vok n P m x (fs ++ [⟨othV (P k) u.nd, k, u.ds + 1⟩]) := by
  have hj : j < fs.length := by
    rcases Nat.lt_or_ge j fs.length with h | h
    · exact h
    · rw [List.getElem?_eq_none h] at hu; cases hu
  refine ⟨fun v hv => ?_, ?_, ?_, fun i v hi hv => ?_⟩
  · rcases List.mem_append.1 hv with hv | hv
    · exact h.rng v hv
    · obtain rfl := List.mem_singleton.1 hv
      exact hr
  · rw [List.pairwise_append]
    refine ⟨h.dis, List.pairwise_singleton _ _, fun a ha b hb => ?_⟩
    obtain rfl := List.mem_singleton.1 hb
    intro e
    have : vhas fs (othV (P k) u.nd) = true := vhas_iff.2 ⟨a, ha, e⟩
    rw [hn] at this
    cases this
  · exact pre_get (List.prefix_append _ _) h.fst
  · by_cases hl : i < fs.length
    · rw [List.getElem?_append_left hl] at hv
      obtain ⟨j', u', k', h1, h2, h3⟩ := h.par i v hi hv
      exact ⟨j', u', k', h1, pre_get (List.prefix_append _ _) h2, h3⟩
    · have hi2 : i = fs.length := by
        rcases Nat.lt_or_ge i (fs.length + 1) with h | h
        · omega
        · rw [List.getElem?_eq_none (by simp; omega)] at hv; cases hv
      subst hi2
      rw [List.getElem?_append_right (Nat.le_refl _), Nat.sub_self] at hv
      simp only [List.getElem?_cons_zero, Option.some.injEq] at hv
      subst hv
      exact ⟨j, u, k, hj, pre_get (List.prefix_append _ _) hu, hk, rfl, he, rfl, rfl⟩
theorem oth_rng {n : Int} {q : Pip} {y : Int} (h : pipB n q = true) : 0 ≤ othV q y ∧ othV q y ≤ n - 1 := by
  have := pipB_parts h
  unfold othV
  split
  · exact this.2.1
  · exact this.1
theorem oth_oth {n : Int} {q : Pip} {y : Int} (h : pipB n q = true) (he : endB q y = true) : othV q (othV q y) = y ∧ endB q (othV q y) = true ∧ othV q y ≠ y := by
  have h3 := (pipB_parts h).2.2
  unfold endB at he
  simp only [Bool.or_eq_true, beq_iff_eq] at he
  unfold othV endB
  simp only [Bool.or_eq_true, beq_iff_eq]
  by_cases e : q.f = y
  · subst e
    rw [if_pos rfl, if_neg h3]
    exact ⟨rfl, .inr rfl, fun e => h3 e.symm⟩
  · have e2 : q.t = y := by rcases he with e1 | e1; exact absurd e1 e; exact e1
    subst e2
    rw [if_neg e, if_pos rfl]
    exact ⟨rfl, .inl rfl, e⟩
theorem Vok.row {n : Nat} {N : Nat → Nod} {P : Nat → Pip} {m : Nat} {x : Int} {fs : List Vs} {j : Nat} {u : Vs} (hN : netB n N m P = true) (h : Vok n P m x fs) (hu : fs[j]? = some u) : ∀ k, k ≤ m → Vok n P m x (vrow P u k fs)
  | 0, _ => h
  | k + 1, hk => by
    have ih := Vok.row hN h hu k (by omega)
    rw [vrow_succ]
    unfold vadd
    split
    · next hc =>
      simp only [Bool.and_eq_true, Bool.not_eq_true'] at hc
      exact ih.app (pre_get (vrow_pre P u fs k) hu) (by omega) hc.1 hc.2 (oth_rng (net_pip hN (by omega)))
    · exact ih
theorem vup_ok {n : Nat} {N : Nat → Nod} {P : Nat → Pip} {m : Nat} {x : Int} (hN : netB n N m P = true) (hx : 0 ≤ x ∧ x ≤ (n : Int) - 1) : ∀ i, Vok n P m x (vup P m x i)
  | 0 => by
    refine ⟨fun v hv => ?_, List.pairwise_singleton _ _, rfl, fun i v hi hv => ?_⟩
    · obtain rfl := List.mem_singleton.1 hv
      exact hx
    · have : [(⟨x, -1, 0⟩ : Vs)][i]? = none := List.getElem?_eq_none (by simp; omega)
      rw [show vup P m x 0 = [⟨x, -1, 0⟩] from rfl, this] at hv
      cases hv
  | i + 1 => by
    have ih := vup_ok hN hx i
    cases h : (vup P m x i)[i]? with
    | none => rw [vup_stop (by simpa using h)]; exact ih
    | some v => rw [vup_succ h]; exact ih.row hN h m (Nat.le_refl _)
/-- different numbers from 0 to n - 1 are at most n -/
theorem nodup_le : ∀ (n : Nat) (l : List Int), (∀ y ∈ l, 0 ≤ y ∧ y ≤ (n : Int) - 1) → l.Pairwise (· ≠ ·) → l.length ≤ n
  | 0, l, h, _ => by
    cases l with
    | nil => exact Nat.le_refl _
    | cons a l => have := h a (by simp); omega
  | n + 1, l, h, hd => by
    by_cases hm : (n : Int) ∈ l
    · have := nodup_le n (l.filter (fun y => decide (y ≠ (n : Int)))) (fun y hy => by
        simp only [List.mem_filter, decide_eq_true_eq] at hy
        have := h y hy.1
        omega) (hd.filter _)
      have h2 : l.length = (l.filter (fun y => decide (y ≠ (n : Int)))).length + (l.filter (fun y => !decide (y ≠ (n : Int)))).length := by
        clear hd hm this h
        induction l with
        | nil => rfl
        | cons a l ih => by_cases e : a = (n : Int) <;> simp [e] <;> simp at ih <;> omega
      have h3 : (l.filter (fun y => !decide (y ≠ (n : Int)))).length ≤ 1 := by
        have hp : (l.filter (fun y => !decide (y ≠ (n : Int)))).Pairwise (· ≠ ·) := hd.filter _
        have ha : ∀ y ∈ l.filter (fun y => !decide (y ≠ (n : Int))), y = (n : Int) := fun y hy => by simp at hy; exact hy.2
        generalize l.filter (fun y => !decide (y ≠ (n : Int))) = q at hp ha
        match q with
        | [] => exact Nat.zero_le _
        | [a] => exact Nat.le_refl _
        | a :: b :: r =>
          have e1 := ha a (by simp)
          have e2 := ha b (by simp)
          simp only [List.pairwise_cons] at hp
          exact absurd (e1.trans e2.symm) (hp.1 b (by simp))
      omega
    · have := nodup_le n l (fun y hy => by
        have h1 := h y hy
        have : y ≠ (n : Int) := fun e => hm (e ▸ hy)
        omega) hd
      omega
theorem Vok.len {n : Nat} {P : Nat → Pip} {m : Nat} {x : Int} {fs : List Vs} (h : Vok n P m x fs) : fs.length ≤ n := by
  have := nodup_le n (fs.map (·.nd)) (fun y hy => by
    obtain ⟨v, hv, rfl⟩ := List.mem_map.1 hy
    exact h.rng v hv) (List.pairwise_map.2 h.dis)
  simpa using this
/-- where the rounds stop, all visits are there -/
theorem vup_end {n : Nat} {N : Nat → Nod} {P : Nat → Pip} {m : Nat} {x : Int} (hN : netB n N m P = true) (hx : 0 ≤ x ∧ x ≤ (n : Int) - 1) {i : Nat} (h : (vup P m x i).length ≤ i) (hi : i ≤ n) : vup P m x i = vis n P m x := by
  unfold vis
  obtain ⟨j, rfl⟩ : ∃ j, n = i + j := ⟨n - i, by omega⟩
  exact (vup_stay h j).symm
theorem vup_vis {n : Nat} {N : Nat → Nod} {P : Nat → Pip} {m : Nat} {x : Int} (hN : netB n N m P = true) (hx : 0 ≤ x ∧ x ≤ (n : Int) - 1) {i : Nat} : vup P m x i <+: vis n P m x := by
  by_cases hi : i ≤ n
  · unfold vis
    obtain ⟨j, rfl⟩ : ∃ j, n = i + j := ⟨n - i, by omega⟩
    exact vup_pre P m x i j
  · obtain ⟨j, rfl⟩ : ∃ j, i = n + j := ⟨i - n, by omega⟩
    rw [vup_stay (vup_ok hN hx n).len j]
    exact List.prefix_refl _
theorem vis_ok {n : Nat} {N : Nat → Nod} {P : Nat → Pip} {m : Nat} {x : Int} (hN : netB n N m P = true) (hx : 0 ≤ x ∧ x ≤ (n : Int) - 1) : Vok n P m x (vis n P m x) := vup_ok hN hx n
theorem take_pre {α : Type} {a b : List α} (h : a <+: b) {i : Nat} (hi : i ≤ a.length) : a.take i = b.take i := by
  obtain ⟨t, rfl⟩ := h
  rw [List.take_append_of_le_length hi]
/-- one more visit has come -/
theorem take_one {α : Type} {a : List α} {i : Nat} {v : α} (h : a[i]? = some v) : a.take (i + 1) = a.take i ++ [v] := by
  rw [List.take_add_one, h]
  rfl

/-- what a table says of a node behind visits -/
def vval (f : Vs → Int) (fs : List Vs) (y : Int) : Int := match fs.find? (fun v => v.nd == y) with
  | some v => f v
  | none => -1
theorem vval_app {f : Vs → Int} {fs : List Vs} {w : Vs} (h : vhas fs w.nd = false) (y : Int) : vval f (fs ++ [w]) y = if y = w.nd then f w else vval f fs y := by
  unfold vval
  rw [List.find?_append]
  by_cases e : y = w.nd
  · subst e
    have : fs.find? (fun v => v.nd == w.nd) = none := by
      rw [List.find?_eq_none]
      intro v hv hq
      have : vhas fs w.nd = true := vhas_iff.2 ⟨v, hv, by simpa using hq⟩
      rw [h] at this
      cases this
    simp [this]
  · rw [if_neg e]
    have e2 : ¬ w.nd = y := fun q => e q.symm
    cases hq : fs.find? (fun v => v.nd == y) <;> simp [e2]
theorem Vok.has_take {n : Nat} {P : Nat → Pip} {m : Nat} {x : Int} {fs : List Vs} (h : Vok n P m x fs) {i : Nat} {v : Vs} (hv : fs[i]? = some v) : vhas (fs.take i) v.nd = false := by
  rw [Bool.eq_false_iff]
  intro hh
  obtain ⟨u, hu, e⟩ := vhas_iff.1 hh
  obtain ⟨j, hj, rfl⟩ := List.mem_iff_getElem.1 hu
  have hi : i < fs.length := by
    rcases Nat.lt_or_ge i fs.length with h | h
    · exact h
    · rw [List.getElem?_eq_none h] at hv; cases hv
  simp only [List.length_take] at hj
  have := List.pairwise_iff_getElem.1 h.dis j i (by omega) hi (by omega)
  rw [List.getElem?_eq_getElem hi] at hv
  injection hv with hv
  subst hv
  apply this
  simpa using e
theorem Vok.val {n : Nat} {P : Nat → Pip} {m : Nat} {x : Int} {fs : List Vs} (h : Vok n P m x fs) (f : Vs → Int) {i : Nat} {v : Vs} (hv : fs[i]? = some v) : vval f fs v.nd = f v := by
  unfold vval
  have hi : i < fs.length := by
    rcases Nat.lt_or_ge i fs.length with h | h
    · exact h
    · rw [List.getElem?_eq_none h] at hv; cases hv
  have : fs.find? (fun u => u.nd == v.nd) = some v := by
    rw [List.find?_eq_some_iff_getElem]
    rw [List.getElem?_eq_getElem hi] at hv
    injection hv with hv
    refine ⟨by simp, i, hi, hv, fun j hj => ?_⟩
    have := List.pairwise_iff_getElem.1 h.dis j i (by omega) hi hj
    rw [hv] at this
    simpa using this
  rw [this]
end Go.Proofs.YtdbgcbkmcbgdiaaGreat.mem

namespace Go.Proofs.YtdbgcbkmcbgdiaaGreat.mem
open Go.RowKit
set_option linter.unusedVariables false

theorem get_lt {α : Type} {fs : List α} {i : Nat} {v : α} (h : fs[i]? = some v) : i < fs.length := by
  rcases Nat.lt_or_ge i fs.length with g | g
  · exact g
  · rw [List.getElem?_eq_none g] at h; cases h
theorem Vok.ds0 {n : Nat} {P : Nat → Pip} {m : Nat} {x : Int} {fs : List Vs} (h : Vok n P m x fs) : ∀ (i : Nat) (v : Vs), fs[i]? = some v → 0 ≤ v.ds := by
  intro i
  induction i using Nat.strongRecOn with
  | _ i ih =>
    intro v hv
    rcases Nat.eq_zero_or_pos i with rfl | hi
    · rw [h.fst] at hv
      injection hv with hv
      subst hv
      exact Int.le_refl _
    · obtain ⟨j, u, k, hj, hu, _, _, _, _, hd⟩ := h.par i v hi hv
      have := ih j hj u hu
      omega
theorem Vok.inj {n : Nat} {P : Nat → Pip} {m : Nat} {x : Int} {fs : List Vs} (h : Vok n P m x fs) {i j : Nat} {u v : Vs} (hu : fs[i]? = some u) (hv : fs[j]? = some v) (e : u.nd = v.nd) : i = j := by
  have hi := get_lt hu
  have hj := get_lt hv
  rw [List.getElem?_eq_getElem hi] at hu
  rw [List.getElem?_eq_getElem hj] at hv
  injection hu with hu
  injection hv with hv
  subst hu hv
  rcases Nat.lt_trichotomy i j with g | g | g
  · exact absurd e (List.pairwise_iff_getElem.1 h.dis i j hi hj g)
  · exact g
  · exact absurd e.symm (List.pairwise_iff_getElem.1 h.dis j i hj hi g)
/-- a node that has been visited stands somewhere -/
theorem vhas_get {fs : List Vs} {y : Int} (h : vhas fs y = true) : ∃ (i : Nat) (v : Vs), fs[i]? = some v ∧ v.nd = y := by
  obtain ⟨v, hv, e⟩ := vhas_iff.1 h
  obtain ⟨i, hi, rfl⟩ := List.mem_iff_getElem.1 hv
  exact ⟨i, _, List.getElem?_eq_getElem hi, e⟩
theorem get_vhas {fs : List Vs} {i : Nat} {v : Vs} (h : fs[i]? = some v) : vhas fs v.nd = true := vhas_iff.2 ⟨v, List.mem_of_getElem? h, rfl⟩
theorem vval_no {f : Vs → Int} {fs : List Vs} {y : Int} (h : vhas fs y = false) : vval f fs y = -1 := by
  unfold vval
  have : fs.find? (fun v => v.nd == y) = none := by
    rw [List.find?_eq_none]
    intro v hv hq
    have : vhas fs y = true := vhas_iff.2 ⟨v, hv, by simpa using hq⟩
    rw [h] at this
    cases this
  rw [this]
/-- the pipes back to the first node, with fuel -/
def pth (P : Nat → Pip) (fs : List Vs) (a : Int) : Nat → Int → List Int
  | 0, _ => []
  | f + 1, b => if b = a then [] else vval (·.en) fs b :: pth P fs a f (othV (P (vval (·.en) fs b).toNat) b)
theorem Vok.pth_fuel {n : Nat} {N : Nat → Nod} {P : Nat → Pip} {m : Nat} {x : Int} {fs : List Vs} (hN : netB n N m P = true) (h : Vok n P m x fs) : ∀ (i : Nat) (v : Vs), fs[i]? = some v → ∀ f, i ≤ f → pth P fs x f v.nd = pth P fs x i v.nd := by
  intro i
  induction i using Nat.strongRecOn with
  | _ i ih =>
    intro v hv f hf
    rcases Nat.eq_zero_or_pos i with rfl | hi
    · rw [h.fst] at hv
      injection hv with hv
      subst hv
      cases f <;> simp [pth]
    · obtain ⟨j, u, k, hj, hu, hk, he, hb, hn, hd⟩ := h.par i v hi hv
      obtain ⟨f', rfl⟩ : ∃ f', f = f' + 1 := ⟨f - 1, by omega⟩
      obtain ⟨i', rfl⟩ : ∃ i', i = i' + 1 := ⟨i - 1, by omega⟩
      have hne : v.nd ≠ x := by
        intro e
        have := h.inj hv h.fst e
        omega
      have ho := (oth_oth (net_pip hN hk) hb).1
      rw [← hn] at ho
      have hvv : vval (·.en) fs v.nd = (k : Nat) := (h.val (·.en) hv).trans he
      simp only [pth, if_neg hne, hvv, Int.toNat_natCast, ho]
      rw [ih j hj u hu f' (by omega), ih j hj u hu i' (by omega)]
/-- one step back -/
theorem Vok.back {n : Nat} {N : Nat → Nod} {P : Nat → Pip} {m : Nat} {x : Int} {fs : List Vs} (hN : netB n N m P = true) (h : Vok n P m x fs) {i : Nat} {v : Vs} (hv : fs[i]? = some v) (hne : v.nd ≠ x) :
    ∃ (j : Nat) (u : Vs) (k : Nat), j < i ∧ fs[j]? = some u ∧ k < m ∧ vval (·.en) fs v.nd = (k : Nat) ∧ endB (P k) v.nd = true ∧ othV (P k) v.nd = u.nd ∧ pth P fs x n v.nd = (k : Int) :: pth P fs x n u.nd := by
  have hi : 0 < i := by
    rcases Nat.eq_zero_or_pos i with rfl | hi
    · rw [h.fst] at hv
      injection hv with hv
      subst hv
      exact absurd rfl hne
    · exact hi
  obtain ⟨j, u, k, hj, hu, hk, he, hb, hn, hd⟩ := h.par i v hi hv
  have ho := oth_oth (net_pip hN hk) hb
  rw [← hn] at ho
  have hvv : vval (·.en) fs v.nd = (k : Nat) := (h.val (·.en) hv).trans he
  refine ⟨j, u, k, hj, hu, hk, hvv, ho.2.1, ho.1, ?_⟩
  have hl := get_lt hv
  have hl2 := h.len
  obtain ⟨n', e⟩ : ∃ n', n = n' + 1 := ⟨n - 1, by omega⟩
  rw [h.pth_fuel hN j u hu n (by omega), ← h.pth_fuel hN j u hu n' (by omega), e]
  simp only [pth, if_neg hne, hvv, Int.toNat_natCast, ho.1]
theorem pth_self {P : Nat → Pip} {fs : List Vs} {a : Int} : ∀ f, pth P fs a f a = []
  | 0 => rfl
  | f + 1 => by simp [pth]
theorem Vok.pth_len {n : Nat} {N : Nat → Nod} {P : Nat → Pip} {m : Nat} {x : Int} {fs : List Vs} (hN : netB n N m P = true) (h : Vok n P m x fs) : ∀ (i : Nat) (v : Vs), fs[i]? = some v → (pth P fs x n v.nd).length ≤ i := by
  intro i
  induction i using Nat.strongRecOn with
  | _ i ih =>
    intro v hv
    by_cases e : v.nd = x
    · rw [e, pth_self]; exact Nat.zero_le _
    · obtain ⟨j, u, k, hj, hu, _, _, _, _, hp⟩ := h.back hN hv e
      have := ih j hj u hu
      rw [hp]
      simp only [List.length_cons]
      omega

/-- the least node of a node's component, the first k nodes being done -/
def cmp (n : Nat) (P : Nat → Pip) (m : Nat) : Nat → Int → Int
  | 0, _ => -1
  | k + 1, y => if cmp n P m k k = -1 ∧ vhas (vis n P m k) y = true then k else cmp n P m k y
theorem cmp_skip {n : Nat} {P : Nat → Pip} {m k : Nat} (h : cmp n P m k k ≠ -1) : cmp n P m (k + 1) = cmp n P m k := by
  funext y
  simp [cmp, h]
theorem cmp_take {n : Nat} {P : Nat → Pip} {m k : Nat} (h : cmp n P m k k = -1) (y : Int) : cmp n P m (k + 1) y = if vhas (vis n P m k) y = true then (k : Int) else cmp n P m k y := by
  simp [cmp, h]
theorem cmp_rng (n : Nat) (P : Nat → Pip) (m : Nat) : ∀ (k : Nat) (y : Int), -1 ≤ cmp n P m k y ∧ cmp n P m k y < k
  | 0, y => by simp [cmp]
  | k + 1, y => by
    have := cmp_rng n P m k y
    unfold cmp
    split <;> omega
/-- the roots: the least nodes of the components -/
def rts (n : Nat) (P : Nat → Pip) (m : Nat) (i : Nat) : Bool := decide (cmp n P m n i = i)
def cnt (n : Nat) (P : Nat → Pip) (m : Nat) : Nat := (fl (rts n P m) n).length
/-- while the visits from k come -/
def cmpV (n : Nat) (P : Nat → Pip) (m k : Nat) (fs : List Vs) (y : Int) : Int := if vhas fs y = true then (k : Int) else cmp n P m k y
theorem cmpV_nil (n : Nat) (P : Nat → Pip) (m k : Nat) : cmpV n P m k [] = cmp n P m k := by
  funext y
  simp [cmpV, vhas]
theorem cmpV_app (n : Nat) (P : Nat → Pip) (m k : Nat) (fs : List Vs) (v : Vs) (y : Int) : cmpV n P m k (fs ++ [v]) y = if y = v.nd then (k : Int) else cmpV n P m k fs y := by
  unfold cmpV
  rw [vhas_app]
  by_cases e : y = v.nd
  · subst e; simp
  · have e2 : (v.nd == y) = false := by simpa using fun q => e q.symm
    rw [if_neg e, e2, Bool.or_false]
theorem cmpV_all {n : Nat} {P : Nat → Pip} {m k : Nat} (h : cmp n P m k k = -1) : cmpV n P m k (vis n P m k) = cmp n P m (k + 1) := by
  funext y
  rw [cmp_take h]
  rfl
end Go.Proofs.YtdbgcbkmcbgdiaaGreat.mem

namespace Go.Proofs.YtdbgcbkmcbgdiaaGreat.mem
open Go.RowKit
set_option linter.unusedVariables false

/-- the entries of visits, but the first one's -/
def ens (fs : List Vs) : List Int := (fs.filter (fun v => v.en != -1)).map (·.en)
theorem ens_mem {fs : List Vs} {q : Int} : q ∈ ens fs ↔ ∃ v ∈ fs, v.en = q ∧ q ≠ -1 := by
  unfold ens
  constructor
  · intro h
    obtain ⟨v, hv, rfl⟩ := List.mem_map.1 h
    simp only [List.mem_filter, bne_iff_ne] at hv
    exact ⟨v, hv.1, rfl, hv.2⟩
  · rintro ⟨v, hv, rfl, h⟩
    exact List.mem_map.2 ⟨v, by simp only [List.mem_filter, bne_iff_ne]; exact ⟨hv, h⟩, rfl⟩
theorem end_two {q : Pip} {a b : Int} {n : Int} (hp : pipB n q = true) (ha : endB q a = true) (hb : endB q b = true) : b = a ∨ b = othV q a := by
  unfold endB at ha hb
  simp only [Bool.or_eq_true, beq_iff_eq] at ha hb
  unfold othV
  split <;> omega
/-- what has been visited holds the other ends of its pipes -/
theorem vrow_has {P : Nat → Pip} {v : Vs} {fs : List Vs} : ∀ (k q : Nat), q < k → endB (P q) v.nd = true → vhas (vrow P v k fs) (othV (P q) v.nd) = true
  | 0, q, h, _ => by omega
  | k + 1, q, h, he => by
    rw [vrow_succ]
    by_cases e : q = k
    · subst e
      unfold vadd
      cases hh : vhas (vrow P v q fs) (othV (P q) v.nd)
      · simp [he, vhas_app]
      · simp [hh]
    · have := vrow_has (P := P) (v := v) (fs := fs) k q (by omega) he
      unfold vadd
      split
      · rw [vhas_app, this]; rfl
      · exact this
theorem vhas_pre {a b : List Vs} {y : Int} (h : a <+: b) (hy : vhas a y = true) : vhas b y = true := by
  obtain ⟨t, rfl⟩ := h
  obtain ⟨v, hv, e⟩ := vhas_iff.1 hy
  exact vhas_iff.2 ⟨v, List.mem_append.2 (.inl hv), e⟩
theorem vis_closed {n : Nat} {N : Nat → Nod} {P : Nat → Pip} {m : Nat} {x : Int} (hN : netB n N m P = true) (hx : 0 ≤ x ∧ x ≤ (n : Int) - 1) {y : Int} (hy : vhas (vis n P m x) y = true) {q : Nat} (hq : q < m) (he : endB (P q) y = true) :
    vhas (vis n P m x) (othV (P q) y) = true := by
  obtain ⟨i, v, hv, rfl⟩ := vhas_get hy
  have hl := get_lt hv
  have hl2 := (vis_ok (P := P) (m := m) hN hx).len
  have hi : (vup P m x i)[i]? = some v := by
    rcases Nat.lt_or_ge i (vup P m x i).length with h | h
    · have hp := vup_vis (P := P) (m := m) hN hx (i := i)
      rw [List.getElem?_eq_getElem h] 
      have := pre_get hp (List.getElem?_eq_getElem h)
      rw [hv] at this
      exact this.symm
    · have := vup_end (P := P) (m := m) hN hx h (by omega)
      rw [this] at h
      omega
  have h1 := vup_vis (P := P) (m := m) hN hx (i := i + 1)
  rw [vup_succ hi] at h1
  exact vhas_pre h1 (vrow_has m q hq he)
/-- a node that two searches visit: the one's first node is visited by the other -/
theorem vis_meet {n : Nat} {N : Nat → Nod} {P : Nat → Pip} {m : Nat} {x y : Int} (hN : netB n N m P = true) (hx : 0 ≤ x ∧ x ≤ (n : Int) - 1) (hy : 0 ≤ y ∧ y ≤ (n : Int) - 1) :
    ∀ (i : Nat) (v : Vs), (vis n P m y)[i]? = some v → vhas (vis n P m x) v.nd = true → vhas (vis n P m x) y = true := by
  intro i
  induction i using Nat.strongRecOn with
  | _ i ih =>
    intro v hv hh
    by_cases e : v.nd = y
    · rw [← e]; exact hh
    · obtain ⟨j, u, k, hj, hu, hk, _, he, ho, _⟩ := (vis_ok (P := P) (m := m) hN hy).back hN hv e
      exact ih j hj u hu (by rw [← ho]; exact vis_closed hN hx hh hk he)
theorem cmp_succ (n : Nat) (P : Nat → Pip) (m k : Nat) (y : Int) : cmp n P m (k + 1) y = if cmp n P m k k = -1 ∧ vhas (vis n P m k) y = true then (k : Int) else cmp n P m k y := rfl
theorem vis_self (n : Nat) (P : Nat → Pip) (m : Nat) (x : Int) : vhas (vis n P m x) x = true := by
  have : (vis n P m x)[0]? = some ⟨x, -1, 0⟩ := by
    have h := vup_pre P m x 0 n
    rw [Nat.zero_add] at h
    exact pre_get h rfl
  exact get_vhas this
/-- a root's search visits no later root, and its round was done -/
theorem rts_open {n : Nat} {N : Nat → Nod} {P : Nat → Pip} {m : Nat} (hN : netB n N m P = true) {r : Nat} (hr : r < n) (h : rts n P m r = true) : cmp n P m r r = -1 := by
  by_cases e : cmp n P m r r = -1
  · exact e
  · exfalso
    have h1 := cmp_rng n P m r r
    have hstep : ∀ j, cmp n P m (r + j) r = cmp n P m r r ∨ ∃ q, r < q ∧ cmp n P m (r + j) r = (q : Nat) := by
      intro j
      induction j with
      | zero => exact .inl rfl
      | succ j ih =>
        rw [← Nat.add_assoc, cmp_succ]
        split
        · next hc =>
          right
          refine ⟨r + j, ?_, rfl⟩
          rcases Nat.eq_zero_or_pos j with rfl | hj
          · exact absurd hc.1 e
          · omega
        · exact ih
    unfold rts at h
    simp only [decide_eq_true_eq] at h
    rcases hstep (n - r) with g | ⟨q, hq, g⟩
    · rw [show r + (n - r) = n by omega, h] at g; omega
    · rw [show r + (n - r) = n by omega, h] at g; omega
theorem rts_apart {n : Nat} {N : Nat → Nod} {P : Nat → Pip} {m : Nat} (hN : netB n N m P = true) {r s : Nat} (hs : s < n) (hrs : r < s) (h1 : rts n P m r = true) (h2 : rts n P m s = true) : vhas (vis n P m r) s = false := by
  rw [Bool.eq_false_iff]
  intro hh
  have o1 := rts_open hN (by omega) h1
  have o2 := rts_open hN hs h2
  have : cmp n P m (r + 1) s = r := by
    rw [cmp_take o1, if_pos hh]
  have hstep : ∀ j, cmp n P m (r + 1 + j) s ≠ -1 := by
    intro j
    induction j with
    | zero => show cmp n P m (r + 1) s ≠ -1; omega
    | succ j ih =>
      rw [← Nat.add_assoc, cmp_succ]
      split
      · omega
      · exact ih
  have := hstep (s - (r + 1))
  rw [show r + 1 + (s - (r + 1)) = s by omega] at this
  exact this o2
/-- the forest as the program collects it: root by root -/
def fcol (n : Nat) (P : Nat → Pip) (m : Nat) (rs : List Nat) : List Int := rs.flatMap (fun r => ens (vis n P m (r : Nat)))
theorem fl_lt {p : Nat → Bool} {k i : Nat} (h : i ∈ fl p k) : i < k ∧ p i = true := by
  unfold fl at h
  simp only [List.mem_filter, List.mem_range] at h
  exact h
theorem fl_mem {p : Nat → Bool} {k i : Nat} (h : i < k) (g : p i = true) : i ∈ fl p k := by
  unfold fl
  simp only [List.mem_filter, List.mem_range]
  exact ⟨h, g⟩
theorem fl_sorted (p : Nat → Bool) (k : Nat) : (fl p k).Pairwise (· < ·) := by
  unfold fl
  exact List.Pairwise.filter _ List.pairwise_lt_range
/-- two rising lists with the same members are one -/
theorem rising_eq : ∀ (a b : List Int), a.Pairwise (· < ·) → b.Pairwise (· < ·) → (∀ x, x ∈ a ↔ x ∈ b) → a = b
  | [], [], _, _, _ => rfl
  | [], y :: b, _, _, h => absurd ((h y).2 (by simp)) (by simp)
  | x :: a, [], _, _, h => absurd ((h x).1 (by simp)) (by simp)
  | x :: a, y :: b, ha, hb, h => by
    rw [List.pairwise_cons] at ha hb
    have e : x = y := by
      rcases List.mem_cons.1 ((h x).1 (by simp)) with e | e
      · exact e
      · rcases List.mem_cons.1 ((h y).2 (by simp)) with g | g
        · exact g.symm
        · have := hb.1 x e
          have := ha.1 y g
          omega
    subst e
    rw [rising_eq a b ha.2 hb.2 fun z => ?_]
    have := h z
    simp only [List.mem_cons] at this
    constructor
    · intro hz
      have := ha.1 z hz
      rcases (h z).1 (List.mem_cons.2 (.inr hz)) |> List.mem_cons.1 with e | e
      · omega
      · exact e
    · intro hz
      have := hb.1 z hz
      rcases (h z).2 (List.mem_cons.2 (.inr hz)) |> List.mem_cons.1 with e | e
      · omega
      · exact e
theorem rising_of {a : List Int} (h : a.Pairwise (· ≤ ·)) (hn : a.Pairwise (· ≠ ·)) : a.Pairwise (· < ·) := by
  have := h.and hn
  exact this.imp (fun ⟨h1, h2⟩ => by omega)
/-- which pipes are in the forest -/
def inF (n : Nat) (P : Nat → Pip) (m : Nat) (rs : List Nat) (k : Nat) : Bool := (fcol n P m rs).contains ((k : Nat) : Int)
def forest (n : Nat) (P : Nat → Pip) (m : Nat) : List Int := (fl (inF n P m (fl (rts n P m) n)) m).map (fun k => ((k : Nat) : Int))
end Go.Proofs.YtdbgcbkmcbgdiaaGreat.mem

namespace Go.Proofs.YtdbgcbkmcbgdiaaGreat.mem
open Go.RowKit
set_option linter.unusedVariables false

theorem Upd.alloc (X : Nat → Prop) (w : World) (o : Obj) : Upd X w (w.alloc o) := Upd.of_below (below_new w o)
theorem Upd.putObj (X : Nat → Prop) (w : World) (l : Nat) (o : Obj) (h : X l) : Upd X w (w.putObj l o) :=
  ⟨rfl, rfl, rfl, by simp, fun k _ hx => World.putObj_heap_other (fun e => hx (by rw [e]; exact h))⟩

theorem Upd.more {X : Nat → Prop} {w1 w2 w3 : World} (h : Upd X w1 w2) (k : Upd (fun b => X b ∨ w1.heap.size ≤ b) w2 w3) : Upd X w1 w3 :=
  ⟨k.os.trans h.os, k.tape.trans h.tape, k.output.trans h.output, Nat.le_trans h.size k.size, fun i hi hx => (k.block i (Nat.lt_of_lt_of_le hi h.size) (by rintro (e | e); exact hx e; omega)).trans (h.block i hi hx)⟩

/-- the contract of an iterator value: it reads the blocks R and lays two own blocks; a round may write into Y, and hands on a Y of these and of what is new -/
def SeqV {α : Type} (F : Fence) (n : Nat) (P : Program) (gf : Nat) (lb : Array Value) (encs : α → Array Value) (xs : List α) (R : Nat → Prop) (W0 : World) : Prop :=
  ∀ (l : Nat) (Y0 : Nat → Prop) (J : List α → (Nat → Prop) → World → Prop) (W : World),
    Upd (fun b => ¬ R b) W0 W →
    (∀ b, Y0 b → b < W.heap.size ∧ ¬ R b) →
    (∀ pre Y A B, J pre Y A → Upd (fun b => b = W.heap.size ∨ b = W.heap.size + 1) A B → J pre Y B) →
    (∀ pre x post Y A, xs = pre ++ x :: post → J pre Y A → W.heap.size + 2 ≤ A.heap.size → (∀ b, Y b → b < A.heap.size ∧ b ≠ W.heap.size ∧ b ≠ W.heap.size + 1) →
      YieldAt F (n - 1) P l (encs x) A fun e B => e = .returned (.bool true) ∧ ∃ Y', J (pre ++ [x]) Y' B ∧ Upd Y A B ∧ ∀ b, Y' b → Y b ∨ (A.heap.size ≤ b ∧ b < B.heap.size)) →
    J [] Y0 W →
    CallsIn F n P gf (#[.func (.yield l) #[] #[]] ++ lb) W fun e B => (∃ v, e = .returned v) ∧ ∃ Y', J xs Y' B

/-- how a round is left: off its end -/
def postV {α : Type} (Y : Nat → Prop) (I : List α → (Nat → Prop) → World → Prop) (s : Nat) (xs : List α) (W : World) : Exit → Act → World → Prop
  | .normal, _, W' => ∃ Y', Upd (fun b => Y b ∨ s ≤ b) W W' ∧ I xs Y' W' ∧ ∀ b, Y' b → Y b ∨ (s ≤ b ∧ b < W'.heap.size)
  | _, _, _ => False

theorem wpIn_range_vis {F : Fence} {n : Nat} {P : Program} {α : Type} {g : Operand} {ps : Array Tmp} {assign body : Code} {Q : Exit → Act → World → Prop} {a : Act} {w : World}
    (hro : F.round = none) (h1 : 1 ≤ n) {gf : Nat} {lb : Array Value} (hg : a.eval g = .func (.func gf) #[] lb) (hFg : F.fn gf) (eg : ∀ args w, (callFunc gf args).run P w = .ok (.enter gf args) w)
    {encs : α → Array Value} {xs : List α} {R : Nat → Prop} {w0 : World} (hseq : SeqV F (n - 1) P gf lb encs xs R w0) (hb0 : Upd (fun b => ¬ R b) w0 w) (hR : ∀ b, R b → b < w.heap.size)
    (hps : ∀ x, (encs x).size = ps.size) (Y0 : Nat → Prop) (hY0 : ∀ b, Y0 b → b < w.heap.size ∧ ¬ R b)
    (I : List α → (Nat → Prop) → World → Prop) (hI : ∀ pre Y A B, I pre Y A → Upd (fun b => w.heap.size ≤ b ∧ b < w.heap.size + 4) A B → I pre Y B) (h0 : I [] Y0 w)
    (hround : ∀ (l : Nat) (pre : List α) (x : α) (post : List α) (Y : Nat → Prop) (W : World), xs = pre ++ x :: post → I pre Y W → w.heap.size + 4 ≤ W.heap.size →
      (∀ b, Y b → b < W.heap.size ∧ ¬ (w.heap.size ≤ b ∧ b < w.heap.size + 4)) →
      assign.wpIn (F.inRound l) (n - 1 - 1) P (Exit.then (fun a₁ w₁ => Upd Y W w₁ ∧
        ∀ Wb, Upd (fun b => w.heap.size ≤ b ∧ b < w.heap.size + 4) w₁ Wb → body.wpIn (F.inRound l) (n - 1 - 1) P (postV Y I W.heap.size (pre ++ [x]) Wb) a₁ Wb) (fun _ _ _ => False))
        { tmps := (ps.zip (encs x)).foldl (fun t (p, v) => t.setIfInBounds p v) a.tmps, defers := [] } W)
    (hdone : ∀ (Y : Nat → Prop) (W : World), I xs Y W → W.heap[w.heap.size]? = some (.deferred (some [])) → Q .normal { a with defers := { target := .collected w.heap.size, args := #[] } :: a.defers } W) :
    (Code.rangeFunc g ps assign body).wpIn F n P Q a w := by
  refine wpIn_rangeFunc ?_
  intro fn hfn
  rw [hro]
  obtain ⟨rec, hrec⟩ : ∃ rec : LoopState → Option Code → Loop, rec = fun st pe => { state := st, pending := pe, fn, tmps := a.tmps, params := ps, assign, body, defers := w.heap.size } := ⟨_, rfl⟩
  obtain ⟨W1, hW1⟩ : ∃ W1, (w.alloc (.deferred (some []))).alloc (.loop (rec .ready none)) = W1 := ⟨_, rfl⟩
  have hs1 : W1.heap.size = w.heap.size + 2 := by rw [← hW1]; simp
  have hL1 : W1.heap[w.heap.size + 1]? = some (.loop (rec .ready none)) := by
    rw [← hW1]; have := World.alloc_heap_new (w.alloc (.deferred (some []))) (.loop (rec .ready none)); rwa [World.size_alloc] at this
  have hK1 : W1.heap[w.heap.size]? = some (.deferred (some [])) := by
    rw [← hW1]; exact (Below.heap_alloc _ _ _ (by simp)).trans (World.alloc_heap_new w _)
  have hU1 : ∀ Y, Upd Y w W1 := fun Y => by rw [← hW1]; exact (Upd.alloc Y _ _).trans (Upd.alloc Y _ _)
  have hI1 : I [] Y0 W1 := hI _ _ _ _ h0 (hU1 _)
  refine ⟨w.heap.size + 1, [{ target := .collected w.heap.size, args := #[] }], W1, { target := .fn (.func gf) lb, args := #[.func (.yield (w.heap.size + 1)) #[] #[]] }, W1, gf,
    #[.func (.yield (w.heap.size + 1)) #[] #[]] ++ lb, W1, ?_, ?_, ?_, ?_, fun _ => h1, ?_⟩
  · rw [← hW1, hrec]; exact run_enterLoop_outer _ _ _ _ _
  · simp only [resolve, hg]
    simp [go_sem]
  · intro f' hf'; simp [Target.leads] at hf'; subst hf'; exact hFg
  · simp [invoke, go_sem, eg]
  · clear hW1
    refine (hseq (w.heap.size + 1) (fun b => Y0 b ∨ b = w.heap.size + 1)
      (fun pre Y W => ∃ Z, I pre Z W ∧ (∀ b, Y b ↔ Z b ∨ b = w.heap.size + 1) ∧ (∀ b, Z b → ¬ (w.heap.size ≤ b ∧ b < w.heap.size + 4)) ∧ W.heap[w.heap.size + 1]? = some (.loop (rec .ready none)) ∧ W.heap[w.heap.size]? = some (.deferred (some []))) W1 (hb0.trans (hU1 _)) ?_ ?_ ?_
      ⟨Y0, hI1, fun _ => Iff.rfl, fun b hb => by have := (hY0 b hb).1; omega, hL1, hK1⟩).mono ?_
    · rintro b (h | rfl)
      · exact ⟨by have := (hY0 b h).1; omega, (hY0 b h).2⟩
      · exact ⟨by omega, fun h => by have := hR _ h; omega⟩
    · rintro pre Y A B ⟨Z, hi, hZ, hz, hl, hk⟩ hu
      have l1 := (Array.getElem?_eq_some_iff.1 hl).1
      exact ⟨Z, hI _ _ _ _ hi (hu.mono fun k _ e => by omega), hZ, hz, (hu.block _ l1 (by omega)).trans hl, (hu.block _ (by omega) (by omega)).trans hk⟩
    · rintro pre x post Y W hx ⟨Z, hi, hZ, hz, hl, hk⟩ hsz hY
      have hy := run_yield (P := P) (args := encs x) hl (by rw [hrec]; exact hps x)
      rw [hrec] at hy
      refine ⟨fn, _, assign, body, hy, roundIn_of_wpIn hfn (wpIn_mono (hround _ pre x post Z W hx hi (by omega) (fun b hb => ⟨(hY b ((hZ b).2 (.inl hb))).1, hz b hb⟩)) ?_)⟩
      clear hy
      rintro e a1 w1 hp
      cases e with
      | normal =>
        obtain ⟨hu1, hb1⟩ := hp
        have nZ : ¬ Z (w.heap.size + 1) := fun h => hz _ h (by omega)
        have nZ0 : ¬ Z w.heap.size := fun h => hz _ h (by omega)
        have hl1 := (hu1.block _ (by omega) nZ).trans hl
        have hk1 := (hu1.block _ (by omega) nZ0).trans hk
        have hz1 := hu1.size
        obtain ⟨W2, hW2⟩ : ∃ W2, w1.putObj (w.heap.size + 1) (.loop { rec .ready none with state := .busy }) = W2 := ⟨_, rfl⟩
        have hl2 : W2.heap[w.heap.size + 1]? = some (.loop { rec .ready none with state := .busy }) := by rw [← hW2]; exact World.putObj_heap_same (by omega)
        have hk2 : W2.heap[w.heap.size]? = some (.deferred (some [])) := by rw [← hW2]; exact (World.putObj_heap_other (by omega)).trans hk1
        have hu2 : ∀ Y : Nat → Prop, Y (w.heap.size + 1) → Upd Y w1 W2 := fun Y hY => by rw [← hW2]; exact Upd.putObj _ _ _ _ hY
        refine ⟨W2, by rw [← hW2]; exact run_beginRound hl1 (by rw [hrec]), ?_⟩
        refine wpIn_mono (hb1 W2 (hu2 _ (by omega))) ?_
        rintro e a3 W3 hp
        cases e with
        | normal =>
          obtain ⟨Z', hu3, hi3, hZ'⟩ := hp
          have hz2 := (hu2 (fun _ => True) trivial).size
          have hz3 := hu3.size
          have hl3 := (hu3.block _ (by omega) (by rintro (h | h); exact nZ h; omega)).trans hl2
          have hk3 := (hu3.block _ (by omega) (by rintro (h | h); exact nZ0 h; omega)).trans hk2
          have hr := run_endRound (P := P) none hl3
          rw [hrec] at hr hl3
          obtain ⟨W4, hW4⟩ : ∃ W4, W3.putObj (w.heap.size + 1) (.loop (rec .ready none)) = W4 := ⟨_, rfl⟩
          have hu4 : ∀ Y : Nat → Prop, Y (w.heap.size + 1) → Upd Y W3 W4 := fun Y hY => by rw [← hW4]; exact Upd.putObj _ _ _ _ hY
          have hs4 : W4.heap.size = W3.heap.size := by rw [← hW4]; simp
          refine ⟨_, W4, by rw [← hW4, hrec]; exact hr, rfl, fun b => Z' b ∨ b = w.heap.size + 1, ⟨Z', hI _ _ _ _ hi3 (hu4 _ (by omega)), fun _ => Iff.rfl, fun b hb => ?_, by rw [← hW4]; exact World.putObj_heap_same (by omega), by rw [← hW4]; exact (World.putObj_heap_other (by omega)).trans hk3⟩, ?_, ?_⟩
          · rcases hZ' b hb with h | h
            · exact hz b h
            · omega
          · refine Upd.trans (Upd.more (Upd.trans (hu1.mono fun b _ h => (hZ b).2 (.inl h)) (hu2 _ ((hZ _).2 (.inr rfl)))) (hu3.mono ?_)) (hu4 _ ((hZ _).2 (.inr rfl)))
            rintro b _ (h | h)
            · exact .inl ((hZ b).2 (.inl h))
            · exact .inr h
          · rintro b (h | rfl)
            · rcases hZ' b h with h | h
              · exact .inl ((hZ b).2 (.inl h))
              · exact .inr (by omega)
            · exact .inl ((hZ _).2 (.inr rfl))
        | _ => exact hp.elim
      | _ => exact hp.elim
    · rintro e W2 ⟨⟨v, rfl⟩, Y, Z, hi, hZ, hz, hl, hk⟩
      have hl2 := (Array.getElem?_eq_some_iff.1 hl).1
      have he := run_endLoop (P := P) hl (by rw [hrec]; simp)
      rw [hrec] at he
      exact ⟨none, _, he, hdone _ _ (hI _ _ _ _ hi (Upd.putObj _ _ _ _ (by omega))) ((World.putObj_heap_other (by omega)).trans hk)⟩
end Go.Proofs.YtdbgcbkmcbgdiaaGreat.mem

namespace Go.Proofs.YtdbgcbkmcbgdiaaGreat.mem
open Go.RowKit
set_option linter.unusedVariables false

set_option maxHeartbeats 4000000 in
theorem mul64_small (n : Nat) (h1 : 1 ≤ n) (h2 : n ≤ 24) (w : World) : Calls Tryz.prog 204 #[.int .u64 1, .int .u64 n] w fun e w' => e = .returned (.tuple #[.int .u64 0, .int .u64 n]) ∧ w' = w := by
  rcases (by omega : n = 1 ∨ n = 2 ∨ n = 3 ∨ n = 4 ∨ n = 5 ∨ n = 6 ∨ n = 7 ∨ n = 8 ∨ n = 9 ∨ n = 10 ∨ n = 11 ∨ n = 12 ∨ n = 13 ∨ n = 14 ∨ n = 15 ∨ n = 16 ∨ n = 17 ∨ n = 18 ∨ n = 19 ∨ n = 20 ∨ n = 21 ∨ n = 22 ∨ n = 23 ∨ n = 24) with rfl | rfl | rfl | rfl | rfl | rfl | rfl | rfl | rfl | rfl | rfl | rfl | rfl | rfl | rfl | rfl | rfl | rfl | rfl | rfl | rfl | rfl | rfl | rfl
  all_goals
    go_enter Tryz.func204, Tryz.ntmps204
    go_wp2
    go_ret2
    exact ⟨rfl, rfl⟩
set_option maxHeartbeats 4000000 in
theorem mul_small (n : Nat) (h1 : 1 ≤ n) (h2 : n ≤ 24) (w : World) : Calls Tryz.prog 196 #[.int .u64 1, .int .u64 n] w fun e w' => e = .returned (.tuple #[.int .u64 0, .int .u64 n]) ∧ w' = w := by
  go_enter Tryz.func196, Tryz.ntmps196
  go_wp2_with (go_at_call 204; refine (mul64_small n h1 h2 _).mono ?_; rintro e w2 ⟨rfl, rfl⟩)
  go_ret2
  exact ⟨rfl, rfl⟩

def rowv (k n : Nat) : List Value := List.replicate k (.int .i64 (-1)) ++ List.replicate (n - k) (.int .i64 0)
theorem rowv_len {k n : Nat} (h : k ≤ n) : (rowv k n).length = n := by simp [rowv]; omega
theorem rowv_get {k n j : Nat} (h : k ≤ n) (hj : j < n) : (rowv k n)[j]? = some (.int .i64 (if j < k then -1 else 0)) := by
  unfold rowv
  rcases Nat.lt_or_ge j k with hk | hk
  · rw [List.getElem?_append_left (by simpa using hk), List.getElem?_replicate, if_pos hk, if_pos hk]
  · rw [List.getElem?_append_right (by simpa using hk), List.getElem?_replicate, List.length_replicate, if_pos (by omega), if_neg (by omega)]
theorem rowv_splice {k m n : Nat} (h : k + m ≤ n) : splice (rowv k n) k (List.replicate m (.int .i64 (-1))) = rowv (k + m) n := by
  refine List.ext_getElem? fun j => ?_
  unfold splice
  rcases Nat.lt_or_ge j n with hj | hj
  · rw [rowv_get h hj]
    rcases Nat.lt_or_ge j k with hk | hk
    · rw [List.getElem?_append_left (by simp [rowv_len (by omega : k ≤ n)]; omega), List.getElem?_take, if_pos hk, rowv_get (by omega) hj, if_pos hk, if_pos (by omega)]
    · rw [List.getElem?_append_right (by simp [rowv_len (by omega : k ≤ n)]; omega)]
      have e : (List.take k (rowv k n)).length = k := by simp [rowv_len (by omega : k ≤ n)]; omega
      rw [e]
      rcases Nat.lt_or_ge j (k + m) with hm | hm
      · rw [List.getElem?_append_left (by simp; omega), List.getElem?_replicate, if_pos (by omega), if_pos hm]
      · rw [List.getElem?_append_right (by simp; omega), List.getElem?_drop, List.length_replicate, rowv_get (by omega) (by omega), if_neg (by omega), if_neg (by omega)]
  · have e := rowv_len (show k ≤ n by omega)
    rw [List.getElem?_eq_none (l := rowv (k + m) n) (by rw [rowv_len h]; exact hj), List.getElem?_eq_none]
    simp [e]
    omega
theorem rowv_one {n : Nat} (h : 1 ≤ n) : splice (zeros n).toList 0 [.int .i64 (-1)] = rowv 1 n := by
  have e : (zeros n).toList = rowv 0 n := by
    refine List.ext_getElem? fun j => ?_
    rcases Nat.lt_or_ge j n with hj | hj
    · rw [rowv_get (Nat.zero_le _) hj, if_neg (by omega), Array.getElem?_toList, zeros_get n j hj]
    · rw [List.getElem?_eq_none (l := rowv 0 n) (by rw [rowv_len (Nat.zero_le _)]; exact hj), List.getElem?_eq_none]
      simpa [zeros, madeCells] using hj
  rw [e]
  exact rowv_splice (k := 0) (m := 1) (by omega)
theorem info_size_int64 : (Tryz.prog.info? 2).map (·.size) = some 1 := by kernel_rfl

theorem get_lt1 {α : Type} {fs : List α} {i : Nat} {v : α} (h : fs[i]? = some v) : i < fs.length := by
  rcases Nat.lt_or_ge i fs.length with h1 | h1
  · exact h1
  · rw [List.getElem?_eq_none h1] at h
    cases h
set_option maxRecDepth 100000 in
set_option maxHeartbeats 4000000 in
theorem repeat_any (w : World) (g0 n : Nat) (h1 : 1 ≤ n) (h2 : n ≤ 24) (hg0 : g0 < w.heap.size) (hc : w.cell? ⟨g0, 0, none⟩ = some (.int .i64 (-1))) :
    Calls Tryz.prog 182 #[.slice (some ⟨g0, 0, none⟩) 1 1, .int .i64 n] w fun e w' => e = .returned (.slice (some ⟨w.heap.size, 0, none⟩) n n) ∧ Ob w' w.heap.size n (fun _ => .int .i64 (-1)) ∧ Below w.heap.size w w' := by
  have hmk := make_int64 w n (by omega)
  have n0 : ¬ ((n : Int) < 0) := by omega
  have n1 : IntKind.u64.wrap (n : Int) = (n : Int) := by
    have : ∀ k : Nat, k < 25 → IntKind.u64.wrap (k : Int) = k := by decide
    exact this n (by omega)
  have HG : Hid ((w.alloc (.cells (zeros n) 2)).heap[w.heap.size]? = some (.cells (zeros n).toList.toArray 2 (0, 0))) := Lib.hid (by simpa using heap_alloc_new w (.cells (zeros n) 2))
  have HS : Hid (∀ (j : Nat) (v : Value), ([Value.int .i64 (-1)] : List Value)[j]? = some v → (w.alloc (.cells (zeros n) 2)).cell? ((⟨g0, 0, none⟩ : Addr).add j) = some v) := Lib.hid (by
    intro j v hj
    have := get_lt1 hj
    simp only [List.length_cons, List.length_nil] at this
    obtain rfl : j = 0 := by omega
    simp only [List.getElem?_cons_zero, Option.some.injEq] at hj
    rw [← hj, ← hc]
    exact World.cell?_of_block (Below.heap_alloc _ _ _ hg0))
  have HB := Lib.hid (below_new w (.cells (zeros n) 2))
  have HF : 0 + ([Value.int .i64 (-1)] : List Value).length ≤ (zeros n).toList.length := by simp [zeros, madeCells]; omega
  have HN : ([Value.int .i64 (-1)] : List Value).length = Nat.min 1 n := by simp [Nat.min_def]; omega
  have H1 : ∀ v ∈ ([Value.int .i64 (-1)] : List Value), v.oneCell' = true := by simp [Value.oneCell']
  go_enter Tryz.func182, Tryz.ntmps182
  go_upto_region 7 with (go_at_call 196; refine (mul_small n h1 h2 _).mono ?_; rintro e w2 ⟨rfl, rfl⟩)
  apply wp_region_lit
  iterate 6 go_step
  refine wpList_copy_splice rfl (.tmp 31) (.tmp 32) 28 28 rfl 2 Tryz.underlying28 info_size_int64 _ _ _ _ _ _ rfl rfl w2.heap.size 0 (zeros n).toList 2 HG.out [.int .i64 (-1)] HN (fun _ => ⟨rfl, _, rfl, HS.out⟩) HF H1 w2.heap.size w2 HB.out (Nat.le_refl _) ?_
  intro w4 HG4 HB4
  rw [rowv_one h1] at HG4
  have HB5 := Lib.hid HB4
  clear HG HS HB HF HN H1 HB4 hmk hc
  generalize hb : w2.heap.size = b0 at *
  go_wp2
  go_loopw [8] (fun i wr => ∃ k : Nat, i = .int .i64 k ∧ 1 ≤ k ∧ k ≤ n ∧ wr.heap[b0]? = some (.cells (rowv k n).toArray 2 (0, 0)) ∧ Below b0 w2 wr) (fun i _ => n - (intOf i).toNat)
  case atStart => exact ⟨1, rfl, Nat.le_refl _, h1, HG4.out, HB5.out⟩
  case round =>
    obtain ⟨k, rfl, hk1, hk, hg, hbel⟩ := hrel
    by_cases hlt : k < n
    · have j0 : (k : Int) < (n : Int) := by omega
      have HGk := Lib.hid hg
      have HBk := Lib.hid hbel
      clear hg hbel
      obtain ⟨c, hcm⟩ : ∃ c, c = Nat.min k (n - k) := ⟨_, rfl⟩
      have hc1 : c ≤ n - k := by rw [hcm]; exact Nat.min_le_right _ _
      have hc2 : c ≤ k := by rw [hcm]; exact Nat.min_le_left _ _
      have hc3 : 1 ≤ c := by rw [hcm]; exact Nat.le_min.2 ⟨hk1, by omega⟩
      have HN := Lib.hid (show (List.replicate c (Value.int .i64 (-1))).length = Nat.min k (n - k) by rw [List.length_replicate]; exact hcm)
      have HF := Lib.hid (show k + (List.replicate c (Value.int .i64 (-1))).length ≤ (rowv k n).length by rw [List.length_replicate, rowv_len hk]; omega)
      have H1 := Lib.hid (show ∀ v ∈ List.replicate c (Value.int .i64 (-1)), v.oneCell' = true by intro v hv; rw [(List.mem_replicate.1 hv).2]; rfl)
      have HS := Lib.hid (show ∀ (j : Nat) (v : Value), (List.replicate c (Value.int .i64 (-1)))[j]? = some v → wr.cell? ((⟨b0, 0, none⟩ : Addr).add j) = some v by
        intro j v hj
        have hl := get_lt1 hj
        rw [List.length_replicate] at hl
        rw [List.getElem?_replicate, if_pos hl, Option.some.injEq] at hj
        rw [← hj]
        have e := rowv_get (k := k) (n := n) hk (show j < n by omega)
        rw [if_pos (by omega)] at e
        have e1 : ((⟨b0, 0, none⟩ : Addr).add j) = ⟨b0, j, none⟩ := by
          unfold Addr.add
          split
          · next h => rw [h]
          · simp
        rw [e1]
        simpa [World.cell?, HGk.out] using e)
      clear hcm
      have hnk : ¬ (n = k) := by omega
      go_wp2
      go_region_law (refine step_copy_splice rfl (.tmp 41) (.tmp 44) 28 28 rfl 2 Tryz.underlying28 info_size_int64 (some ⟨b0, k, none⟩) (some ⟨b0, 0, none⟩) (n - k) (n - k) k n (by simp [Act.eval, Act.put]) (by simp [Act.eval, Act.put]) b0 k (rowv k n) 2 HGk.out (List.replicate c (Value.int .i64 (-1))) HN.out (fun _ => ⟨rfl, _, rfl, HS.out⟩) HF.out H1.out b0 w2 ⟨HBk.out.os, HBk.out.tape, HBk.out.output, HBk.out.size, HBk.out.block⟩ (Nat.le_refl _) ?_; intro w5 HG5 HB5')
      rw [rowv_splice (by omega)] at HG5
      have hwr : IntKind.i64.wrap ((k : Int) + (c : Int)) = (k : Int) + c := IntWalk.i64_in _ (by omega)
      go_wp2
      refine ⟨⟨_, _, _, _, _, _, _, _, _, _, _, _, _, _, ?rel, rfl⟩, ?measure⟩
      case rel => exact ⟨k + c, by rw [hwr]; simp, by omega, by omega, HG5.out, HB5'⟩
      case measure =>
        show n - (intOf (.int .i64 (IntKind.i64.wrap ((k : Int) + (c : Int))))).toNat < n - (intOf (.int .i64 (k : Int))).toNat
        rw [hwr]
        simp only [intOf]
        omega
    · obtain rfl : k = n := by omega
      have j0 : ¬ ((k : Int) < (k : Int)) := by omega
      have HGk := Lib.hid hg
      have HBk := Lib.hid hbel
      clear hg hbel
      go_wp2
      go_ret
      refine ⟨rfl, ⟨(rowv k k).toArray, _, HGk.out, by rw [List.size_toArray, rowv_len (Nat.le_refl _)], fun j hj => ?_⟩, by rw [hb] at *; exact HBk.out⟩
      have e := rowv_get (k := k) (n := k) (Nat.le_refl _) hj
      rw [if_pos hj] at e
      simpa using e
end Go.Proofs.YtdbgcbkmcbgdiaaGreat.mem

namespace Go.Proofs.YtdbgcbkmcbgdiaaGreat.mem
open Go.RowKit
set_option linter.unusedVariables false
attribute [local go_sem] Oper.semAt_some

def encV (v : Vs) : Array Value := #[.agg #[.int .i64 v.nd, .int .i64 v.en, .int .i64 v.ds]]
/-- the table of the visits so far lies in block b -/
structure Fnd (w : World) (b : Nat) (fs : List Vs) : Prop where
  ex : ∃ d, Ob w b 72 d ∧ ∀ i v, fs[i]? = some v → d (i * 3) = .int .i64 v.nd ∧ d (i * 3 + 1) = .int .i64 v.en ∧ d (i * 3 + 2) = .int .i64 v.ds
theorem Fnd.keep {w w' : World} {b : Nat} {fs : List Vs} (h : Fnd w b fs) (e : w'.heap[b]? = w.heap[b]?) : Fnd w' b fs := by
  obtain ⟨d, h1, h2⟩ := h.ex
  exact ⟨d, h1.keep e, h2⟩
theorem Fnd.lt {w : World} {b : Nat} {fs : List Vs} (h : Fnd w b fs) : b < w.heap.size := by
  obtain ⟨d, h1, h2⟩ := h.ex
  exact h1.lt
theorem Fnd.cell {w : World} {b : Nat} {fs : List Vs} (h : Fnd w b fs) {i : Nat} {v : Vs} (hv : fs[i]? = some v) (hi : i < 24) :
    w.cell? ⟨b, i * 3, none⟩ = some (.int .i64 v.nd) ∧ w.cell? ⟨b, i * 3 + 1, none⟩ = some (.int .i64 v.en) ∧ w.cell? ⟨b, i * 3 + 2, none⟩ = some (.int .i64 v.ds) := by
  obtain ⟨d, h1, h2⟩ := h.ex
  obtain ⟨e0, e1, e2⟩ := h2 i v hv
  rw [← e0, ← e1, ← e2]
  exact ⟨h1.cell _ (by omega), h1.cell _ (by omega), h1.cell _ (by omega)⟩
theorem Fnd.free {w : World} {b : Nat} {fs : List Vs} (h : Fnd w b fs) (k : Nat) : w.frozen? ⟨b, k, none⟩ = false := by
  obtain ⟨d, h1, h2⟩ := h.ex
  exact h1.free k
theorem Fnd.has {w : World} {b : Nat} {fs : List Vs} (h : Fnd w b fs) (k : Nat) (hk : k < 72) : ∃ v, w.cell? ⟨b, k, none⟩ = some v := by
  obtain ⟨d, h1, h2⟩ := h.ex
  exact ⟨_, h1.cell k hk⟩
theorem Fnd.more {w : World} {b : Nat} {fs : List Vs} (h : Fnd w b fs) (v : Vs) (hl : fs.length < 24) :
    Fnd (((w.setCell ⟨b, fs.length * 3, none⟩ (.int .i64 v.nd)).setCell ⟨b, fs.length * 3 + 1, none⟩ (.int .i64 v.en)).setCell ⟨b, fs.length * 3 + 2, none⟩ (.int .i64 v.ds)) b (fs ++ [v]) := by
  obtain ⟨d, h1, h2⟩ := h.ex
  refine ⟨_, ((h1.set _ _ (by omega)).set _ _ (by omega)).set _ _ (by omega), fun i u hu => ?_⟩
  unfold updV
  rcases Nat.lt_or_ge i fs.length with hi | hi
  · rw [List.getElem?_append_left hi] at hu
    obtain ⟨e0, e1, e2⟩ := h2 i u hu
    refine ⟨?_, ?_, ?_⟩
    · rw [if_neg (by omega), if_neg (by omega), if_neg (by omega), e0]
    · rw [if_neg (by omega), if_neg (by omega), if_neg (by omega), e1]
    · rw [if_neg (by omega), if_neg (by omega), if_neg (by omega), e2]
  · have hil := get_lt hu
    simp only [List.length_append, List.length_cons, List.length_nil] at hil
    obtain rfl : i = fs.length := by omega
    simp only [List.getElem?_append_right (Nat.le_refl _), Nat.sub_self, List.getElem?_cons_zero, Option.some.injEq] at hu
    subst hu
    refine ⟨?_, ?_, ?_⟩
    · rw [if_neg (by omega), if_neg (by omega), if_pos rfl]
    · rw [if_neg (by omega), if_pos rfl]
    · rw [if_pos rfl]
theorem Fnd.nil {w : World} {b : Nat} {d : Nat → Value} (h : Ob w b 72 d) : Fnd w b [] := ⟨d, h, fun i v hv => by simp at hv⟩
def vsC (v : Vs) : Nat → Value := fun k => if k = 0 then .int .i64 v.nd else if k = 1 then .int .i64 v.en else .int .i64 v.ds
theorem boxedV (w : World) (v : Vs) (t : TypeId) : Ob (w.alloc (.cells #[.int .i64 v.nd, .int .i64 v.en, .int .i64 v.ds] t)) w.heap.size 3 (vsC v) :=
  Ob.new w _ _ 3 _ rfl (by intro k hk; rcases (by omega : k = 0 ∨ k = 1 ∨ k = 2) with rfl | rfl | rfl <;> rfl)
/-- which nodes have been visited, block b -/
def flagC (fs : List Vs) : Nat → Value := fun k => .bool (vhas fs ((k : Nat) : Int))
theorem flag_more {w : World} {b : Nat} {fs : List Vs} (h : Ob w b 24 (flagC fs)) (v : Vs) (k : Nat) (hk : k < 24) (e : v.nd = (k : Int)) : Ob (w.setCell ⟨b, k, none⟩ (.bool true)) b 24 (flagC (fs ++ [v])) := by
  refine (h.set k (.bool true) hk).congr fun j hj => ?_
  unfold updV flagC
  rw [vhas_app, e]
  by_cases hjk : j = k
  · subst hjk
    simp
  · rw [if_neg hjk]
    have : (((k : Nat) : Int) == ((j : Nat) : Int)) = false := by rw [beq_eq_false_iff_ne]; omega
    rw [this, Bool.or_false]

theorem start_flags (W : World) (X0 : Nat) (hX : X0 < 24) (t : TypeId) (l : List Value) (hl : l.length = 24) (h0 : ∀ k, k < 24 → l[k]? = some (.bool false)) (v : Vs) (hv : v.nd = (X0 : Int)) :
    Ob (W.alloc (.cells (l.set X0 (.bool true)).toArray t)) W.heap.size 24 (flagC [v]) := by
  refine Ob.new _ _ _ _ _ (by simp [hl]) fun k hk => ?_
  simp only [List.getElem?_toArray, List.getElem?_set, h0 k hk, hl]
  unfold flagC
  have e : vhas [v] ((k : Nat) : Int) = (v.nd == ((k : Nat) : Int)) := by simp [vhas]
  rw [e, hv]
  by_cases hk0 : X0 = k
  · subst hk0
    simp [hX]
  · have : (((X0 : Nat) : Int) == ((k : Nat) : Int)) = false := by rw [beq_eq_false_iff_ne]; omega
    simp [hk0, this]
theorem start_fnd (W : World) (cur : Array Value) (t : TypeId) (hs : cur.size = 72) (v : Vs) (e0 : cur[0]? = some (.int .i64 v.nd)) (e1 : cur[1]? = some (.int .i64 v.en)) (e2 : cur[2]? = some (.int .i64 v.ds)) :
    Fnd (W.alloc (.cells cur t)) W.heap.size [v] := by
  refine ⟨fun k => (cur[k]?).getD default, Ob.new _ _ _ _ _ hs fun k hk => ?_, fun i u hu => ?_⟩
  · rw [Array.getElem?_eq_getElem (by omega)]
    rfl
  · have := get_lt hu
    simp only [List.length_cons, List.length_nil] at this
    obtain rfl : i = 0 := by omega
    simp only [List.getElem?_cons_zero, Option.some.injEq] at hu
    subst hu
    simp only [Nat.zero_mul, Nat.zero_add]
    rw [e0, e1, e2]
    exact ⟨rfl, rfl, rfl⟩

theorem Vok.dsle {n : Nat} {P : Nat → Pip} {m : Nat} {x : Int} {fs : List Vs} (h : Vok n P m x fs) : ∀ (i : Nat) (v : Vs), fs[i]? = some v → v.ds ≤ i := by
  intro i
  induction i using Nat.strongRecOn with
  | _ i ih =>
    intro v hv
    rcases Nat.eq_zero_or_pos i with rfl | hi
    · rw [h.fst] at hv
      injection hv with hv
      subst hv
      exact Int.le_refl _
    · obtain ⟨j, u, k, hj, hu, _, _, _, _, hd⟩ := h.par i v hi hv
      have := ih j hj u hu
      omega
/-- between two rounds: k visits have been handed out -/
def VRel (R : Nat → Prop) (B : Nat) (w : World) (P : Nat → Pip) (m : Nat) (x : Int) (J : List Vs → (Nat → Prop) → World → Prop) (cnt i : Value) (wr : World) : Prop :=
  ∃ (k : Nat) (fs : List Vs) (Y : Nat → Prop), i = .int .i64 k ∧ cnt = .int .i64 fs.length ∧ fs = vup P m x k ∧ k ≤ fs.length ∧ J (fs.take k) Y wr ∧ Upd (fun b => ¬ R b) w wr ∧ B + 2 ≤ wr.heap.size ∧
    Ob wr B 24 (flagC fs) ∧ Fnd wr (B + 1) fs ∧ ∀ b, Y b → b < wr.heap.size ∧ b ≠ B ∧ b ≠ B + 1 ∧ ¬ R b
/-- between two pipes: the first q pipes of visit v have been looked at, which lies in block bv -/
def VRel2 (R : Nat → Prop) (B bv : Nat) (w : World) (P : Nat → Pip) (m : Nat) (v : Vs) (fs : List Vs) (J : (Nat → Prop) → World → Prop) (cnt i : Value) (wr : World) : Prop :=
  ∃ (q : Nat) (gs : List Vs) (Y : Nat → Prop), i = .int .i64 q ∧ q ≤ m ∧ cnt = .int .i64 gs.length ∧ gs = vrow P v q fs ∧ J Y wr ∧ Upd (fun b => ¬ R b) w wr ∧ B + 2 ≤ wr.heap.size ∧
    Ob wr B 24 (flagC gs) ∧ Fnd wr (B + 1) gs ∧ Ob wr bv 3 (vsC v) ∧ ∀ b, Y b → b < wr.heap.size ∧ b ≠ B ∧ b ≠ B + 1 ∧ b ≠ bv ∧ ¬ R b

set_option maxRecDepth 100000 in
set_option maxHeartbeats 4000000 in
theorem visits1_any (nn : Nat) (h3 : 3 ≤ nn) (w : World) (v : Value) (n : Nat) (N : Nat → Nod) (m : Nat) (P : Nat → Pip) (lo hi : Nat) (h : NetAt w v n N m P lo hi) (n₀ : Nat) (hhi : hi ≤ n₀) (hn0 : n₀ ≤ w.heap.size) (hB : netB n N m P = true) (X0 : Nat) (hX : X0 < n)
    (v0 v1 : Value) (hv : v = .agg #[v0, v1]) (c1 c2 : Nat) (b1 : Ob w c1 1 (fun _ => .int .i64 (X0 : Nat))) (b2 : Ob w c2 2 (bx v0 v1)) :
    SeqV Fence.wide nn Tryz.prog 183 #[.pointer (some ⟨c1, 0, none⟩), .pointer (some ⟨c2, 0, none⟩)] encV (vis n P m (X0 : Nat)) (fun r => r < n₀ ∨ r = c1 ∨ r = c2) w := by
  subst hv
  obtain ⟨_, _, hv, g0, g1⟩ := h.ex
  simp only [Value.agg.injEq, Array.mk.injEq, List.cons.injEq, and_true] at hv
  obtain ⟨rfl, rfl⟩ := hv
  obtain ⟨p0, k0, rfl⟩ := g0.shape
  obtain ⟨p1, k1, rfl⟩ := g1.shape
  intro l Y0 J W hU hY0 hJ HY hJ0
  refine callsIn_of_wp Tryz.func183 rfl trivial ?_ rfl
  simp only [Tryz.ntmps183, List.size_toArray, List.length_cons, List.length_nil, Nat.reduceAdd, Nat.reduceSub, Array.replicate_succ, Array.replicate_zero, List.push_toArray, List.append_toArray, List.nil_append, List.cons_append]
  have hX24 : X0 < 24 := by have := net_sz hB; omega
  have i0 : (0 : Int) ≤ (X0 : Int) := Int.natCast_nonneg _
  have i1 : (X0 : Int) < 24 := by omega
  have l1 := b1.lt
  have l2 := b2.lt
  have hz := hU.size
  have c1' := b1.keep (hU.block c1 l1 (by omega))
  have c2' := b2.keep (hU.block c2 l2 (by omega))
  have y0 := c1'.cell 0 (by omega)
  have y1 : c1 < W.heap.size := by omega
  gi_wp2
  gi_loopw [6, 7] (fun cnt i wr => VRel (fun r => r < n₀ ∨ r = c1 ∨ r = c2) W.heap.size w P m (X0 : Nat) J cnt i wr) (fun _ i _ => 24 - (intOf i).toNat)
  case atStart =>
    have hz0 : vup P m X0 0 = [⟨X0, -1, 0⟩] := rfl
    refine ⟨0, _, Y0, rfl, rfl, hz0.symm, Nat.zero_le _, hJ _ _ _ _ hJ0 ((Upd.alloc _ _ _).trans (Upd.alloc _ _ _)), (hU.trans (Upd.alloc _ _ _)).trans (Upd.alloc _ _ _), by simp, ?_, ?_, fun b hb => ?_⟩
    · exact (start_flags W X0 hX24 _ _ rfl (by intro k hk; rcases (by omega : k = 0 ∨ k = 1 ∨ k = 2 ∨ k = 3 ∨ k = 4 ∨ k = 5 ∨ k = 6 ∨ k = 7 ∨ k = 8 ∨ k = 9 ∨ k = 10 ∨ k = 11 ∨ k = 12 ∨ k = 13 ∨ k = 14 ∨ k = 15 ∨ k = 16 ∨ k = 17 ∨ k = 18 ∨ k = 19 ∨ k = 20 ∨ k = 21 ∨ k = 22 ∨ k = 23) with rfl | rfl | rfl | rfl | rfl | rfl | rfl | rfl | rfl | rfl | rfl | rfl | rfl | rfl | rfl | rfl | rfl | rfl | rfl | rfl | rfl | rfl | rfl | rfl <;> rfl) ⟨X0, -1, 0⟩ rfl).keep (Below.heap_alloc _ _ _ (by simp))
    · have := start_fnd (W.alloc (Obj.cells ([Value.bool false, Value.bool false, Value.bool false, Value.bool false, Value.bool false, Value.bool false, Value.bool false, Value.bool false, Value.bool false, Value.bool false, Value.bool false, Value.bool false, Value.bool false, Value.bool false, Value.bool false, Value.bool false, Value.bool false, Value.bool false, Value.bool false, Value.bool false, Value.bool false, Value.bool false, Value.bool false, Value.bool false].set X0 (Value.bool true)).toArray 182))
        (((Tryz.zeroCells183.setIfInBounds 0 (Value.int IntKind.i64 X0)).setIfInBounds 1 (Value.int IntKind.i64 (-1))).setIfInBounds 2 (Value.int IntKind.i64 0)) 183 (by simp) ⟨X0, -1, 0⟩ rfl rfl rfl
      rwa [World.size_alloc] at this
    · have := hY0 b hb
      simp only [World.size_alloc]
      exact ⟨by omega, by omega, by omega, this.2⟩
  case round =>
    obtain ⟨k, fs, Y, rfl, rfl, hfs, hk, hj, hu, hsz, hof, hfn, hyb⟩ := hrel
    have ok := vup_ok hB ⟨i0, by omega⟩ k
    rw [← hfs] at ok
    have hlen := ok.len
    have hn24 := (net_sz hB).2.1
    have hpre : fs <+: vis n P m (X0 : Nat) := by rw [hfs]; exact vup_vis hB ⟨i0, by omega⟩
    have HFS := Lib.hid hfs
    have HU := Lib.hid hu
    have HOF := Lib.hid hof
    have HFN := Lib.hid hfn
    have HYB := Lib.hid hyb
    clear hfs hu hof hfn hyb
    by_cases hlt : k < fs.length
    · obtain ⟨v, hv⟩ : ∃ v, fs[k]? = some v := ⟨_, List.getElem?_eq_getElem hlt⟩
      obtain ⟨z0, z1, z2⟩ := HFN.out.cell hv (by omega)
      have j1 : (k : Int) < 24 := by omega
      have j0 : (0 : Int) ≤ (k : Int) := Int.natCast_nonneg _
      have j2 : (k : Int) < (fs.length : Int) := by omega
      have z3 : W.heap.size + 1 < wr.heap.size := HFN.out.lt
      have hA : ∀ X, Upd X wr (wr.alloc (Obj.cells #[.int .i64 v.nd, .int .i64 v.en, .int .i64 v.ds] 174)) := fun X => Upd.alloc _ _ _
      obtain ⟨post, hpost⟩ : ∃ post, vis n P m (X0 : Nat) = fs.take k ++ v :: post := by
        obtain ⟨r, hr⟩ := hpre
        refine ⟨fs.drop (k + 1) ++ r, ?_⟩
        rw [← hr, ← List.cons_append, ← List.append_assoc]
        congr 1
        rw [List.getElem?_eq_getElem hlt, Option.some.injEq] at hv
        rw [← hv, List.getElem_cons_drop, List.take_append_drop]
      have HA0 := HY _ v post Y _ hpost (hJ _ _ _ _ hj (hA _)) (by simp; omega) (fun b hb => by have := HYB.out b hb; simp only [World.size_alloc]; exact ⟨by omega, by omega, by omega⟩)
      obtain ⟨fn, tm, asg, bd, hy, hR⟩ := HA0
      simp only [encV] at hy
      have HR := Lib.hid hR
      clear hR
      generalize hQ : Exit.then _ _ = Q
      have HQ := Lib.hid hQ
      clear hQ
      gi_wp2
      refine ⟨fun _ => by omega, HR.out.mono ?_⟩
      rintro e wb ⟨rfl, Y', hj', hu', hy'⟩
      have hs' := hu'.size
      simp only [World.size_alloc] at hs' hy'
      have hbk : ∀ b, b < wr.heap.size → ¬ Y b → wb.heap[b]? = wr.heap[b]? := fun b h1 h2 => (hu'.block b (by simp; omega) h2).trans (Below.heap_alloc _ _ _ h1)
      have oB : Hid (Ob wb wr.heap.size 3 (vsC v)) := Lib.hid ((boxedV wr v _).keep (hu'.block _ (by simp) (fun h => by have := HYB.out _ h; omega)))
      have HU2 : Hid (Upd (fun b => ¬(b < n₀ ∨ b = c1 ∨ b = c2)) w wb) := Lib.hid ((HU.out.trans (hA _)).trans (hu'.mono fun b _ h => (HYB.out b h).2.2.2))
      have HOF2 : Hid (Ob wb W.heap.size 24 (flagC fs)) := Lib.hid (HOF.out.keep (hbk _ (by omega) (fun h => (HYB.out _ h).2.1 rfl)))
      have HFN2 : Hid (Fnd wb (W.heap.size + 1) fs) := Lib.hid (HFN.out.keep (hbk _ (by omega) (fun h => (HYB.out _ h).2.2.1 rfl)))
      have HYB2 : Hid (∀ b, Y' b → b < wb.heap.size ∧ b ≠ W.heap.size ∧ b ≠ W.heap.size + 1 ∧ b ≠ wr.heap.size ∧ ¬ (b < n₀ ∨ b = c1 ∨ b = c2)) := Lib.hid (fun b hb => by
        rcases hy' b hb with h | h
        · have := HYB.out b h
          exact ⟨by omega, this.2.1, this.2.2.1, by omega, this.2.2.2⟩
        · exact ⟨by omega, by omega, by omega, by omega, by omega⟩)
      have HJ2 := Lib.hid hj'
      have z5 : wb.cell? ⟨c2, 1, none⟩ = some (.slice p1 m k1) := (b2.keep (HU2.out.block c2 l2 (by omega))).b1
      have z6 : c2 < wb.heap.size := by omega
      clear hbk hu' hy' hj' HOF HFN HU HYB hy HR hA hj z0 z1 z2 hJ0
      have hbv0 : W.heap.size + 2 ≤ wr.heap.size := hsz
      have hbv1 : wr.heap.size < wb.heap.size := by omega
      clear hsz hs' z3
      generalize wr.heap.size = bv at *
      gi_wp2
      gi_loopw [6, 32] (fun cnt i wr => VRel2 (fun r => r < n₀ ∨ r = c1 ∨ r = c2) W.heap.size bv w P m v fs (J (fs.take k ++ [v])) cnt i wr) (fun _ i _ => m - (intOf i).toNat)
      case atStart => exact ⟨0, fs, Y', rfl, Nat.zero_le _, rfl, rfl, HJ2.out, HU2.out, by omega, HOF2.out, HFN2.out, oB.out, HYB2.out⟩
      case round =>
        generalize hQ2 : Exit.then _ _ = Q2
        have HQ2 := Lib.hid hQ2
        clear hQ2
        obtain ⟨q, gs, Y2, rfl, hqm, rfl, hgs, hj2, hu2, hsz2, hof2, hfn2, hbx2, hyb2⟩ := hrel
        have HGS := Lib.hid hgs
        have HU3 := Lib.hid hu2
        have HOF3 := Lib.hid hof2
        have HFN3 := Lib.hid hfn2
        have HBX3 := Lib.hid hbx2
        have HYB3 := Lib.hid hyb2
        have HJ3 := Lib.hid hj2
        clear hgs hu2 hof2 hfn2 hbx2 hyb2 hj2 HU2 HOF2 HFN2 oB HYB2 HJ2 z5 z6
        have w0 : wr.cell? ⟨bv, 0, none⟩ = some (.int .i64 v.nd) := HBX3.out.cell 0 (by omega)
        have w2 : wr.cell? ⟨bv, 2, none⟩ = some (.int .i64 v.ds) := HBX3.out.cell 2 (by omega)
        have w3 : bv < wr.heap.size := HBX3.out.lt
        by_cases hq : q < m
        · rcases g1.ex with ⟨p, cap, he, _, hcap, hc⟩
          injection he with e1 _ e2
          subst e1 e2
          rcases hc with h0 | ⟨b, o, rfl, hlo, hb, g3⟩
          · omega
          have g4 := g3.congrW (HU3.out.block b (by omega) (by simp; omega))
          have y0 : wr.cell? ⟨b, o + q * 5, none⟩ = some (.int .i64 (P q).f) := g4.cell q 0 hq (by omega)
          have y1 : wr.cell? ⟨b, o + q * 5 + 1, none⟩ = some (.int .i64 (P q).t) := g4.cell q 1 hq (by omega)
          have y2 : wr.cell? ⟨b, o + q * 5 + 2, none⟩ = some (.int .i64 (P q).k) := g4.cell q 2 hq (by omega)
          have y3 : wr.cell? ⟨b, o + q * 5 + 3, none⟩ = some (.int .i64 (P q).v) := g4.cell q 3 hq (by omega)
          have y4 : wr.cell? ⟨b, o + q * 5 + 4, none⟩ = some (.int .i64 (P q).l) := g4.cell q 4 hq (by omega)
          clear g3 g4
          have hpq := net_pip hB hq
          have hbP := boxedP wr (P q) 121
          cases hE : endB (P q) v.nd
          · gi_wp2
            refine ⟨trivial, fun _ => by omega, (callsIn_wide.2 (endsAt_any (P q) v.nd _)).mono ?_⟩
            rintro e w4 ⟨rfl, b4⟩
            have b5 : Below wr.heap.size wr w4 := (below_new wr _).trans (b4.mono (by simp))
            have hs4 := b5.size
            rw [hE]
            clear y0 y1 y2 y3 y4 w0 w2
            gi_wp2
            refine ⟨trivial, ?_⟩
            gi_wp2
            rw [← HQ2.out]
            refine ⟨⟨_, _, _, _, _, _, _, _, _, _, _, _, _, _, _, _, _, _, _, _, _, _, _, _, _, _, _, _, _, _, _, _, _, _, _, _, _, _, _, ?rel, rfl⟩, ?measure⟩
            case rel => exact ⟨q + 1, gs, Y2, by go_num, hq, rfl, by rw [vrow_succ, ← HGS.out]; unfold vadd; rw [hE]; rfl, hJ _ _ _ _ HJ3.out (Upd.of_below b5), HU3.out.trans (Upd.of_below b5), by omega, HOF3.out.below b5 (by omega), HFN3.out.keep (b5.block _ (by omega)), HBX3.out.below b5 w3, fun b hb => by have := HYB3.out b hb; exact ⟨by omega, this.2⟩⟩
            case measure => simp [intOf]; omega
          · obtain ⟨hz0, hz1⟩ := oth_rng hpq (y := v.nd)
            obtain ⟨Z, hZ⟩ := Int.eq_ofNat_of_zero_le hz0
            have HZ := Lib.hid hZ
            have q0 : (0 : Int) ≤ (Z : Int) := Int.natCast_nonneg _
            have q1 : (Z : Int) < 24 := by omega
            cases hF : vhas gs (Z : Int)
            · have okq := Vok.row hB ok hv (q + 1) (by omega)
              rw [vrow_succ, ← HGS.out] at okq
              have hadd : vadd P v gs q = gs ++ [⟨Z, q, v.ds + 1⟩] := by unfold vadd; rw [hE, HZ.out]; simp [hF]
              rw [hadd] at okq
              have hlg := okq.len
              simp only [List.length_append, List.length_cons, List.length_nil] at hlg
              have d0 := ok.ds0 k v hv
              have d1 := ok.dsle k v hv
              gi_wp2
              refine ⟨trivial, fun _ => by omega, (callsIn_wide.2 (endsAt_any (P q) v.nd _)).mono ?_⟩
              rintro e w4 ⟨rfl, b4⟩
              have b5 : Below wr.heap.size wr w4 := (below_new wr _).trans (b4.mono (by simp))
              have hs4 := b4.size
              simp only [World.size_alloc] at hs4
              rw [hE]
              have hbP4 := hbP.below b4 (by simp)
              have x0 : w4.cell? ⟨wr.heap.size, 0, none⟩ = some (.int .i64 (P q).f) := hbP4.cell 0 (by omega)
              have x1 : w4.cell? ⟨wr.heap.size, 1, none⟩ = some (.int .i64 (P q).t) := hbP4.cell 1 (by omega)
              have x2 : w4.cell? ⟨wr.heap.size, 2, none⟩ = some (.int .i64 (P q).k) := hbP4.cell 2 (by omega)
              have x3 : w4.cell? ⟨wr.heap.size, 3, none⟩ = some (.int .i64 (P q).v) := hbP4.cell 3 (by omega)
              have x4 : w4.cell? ⟨wr.heap.size, 4, none⟩ = some (.int .i64 (P q).l) := hbP4.cell 4 (by omega)
              have x5 : w4.cell? ⟨bv, 0, none⟩ = some (.int .i64 v.nd) := (HBX3.out.below b5 w3).cell 0 (by omega)
              clear y0 y1 y2 y3 y4 w0 w2
              gi_wp2
              refine ⟨trivial, fun _ => by omega, (callsIn_wide.2 (otherEnd_any (P q) v.nd _)).mono ?_⟩
              rintro e w5 ⟨rfl, b6⟩
              have b7 : Below wr.heap.size wr w5 := b5.trans (b6.mono (by omega))
              have hs5 := b6.size
              rw [HZ.out]
              have x6 : w5.cell? ⟨W.heap.size, Z, none⟩ = some (.bool (vhas gs (Z : Int))) := (HOF3.out.below b7 (by omega)).cell Z (by omega)
              rw [hF] at x6
              clear x0 x1 x2 x3 x4 x5
              have hbP5 := hbP4.below b6 (by omega)
              have x0 : w5.cell? ⟨wr.heap.size, 0, none⟩ = some (.int .i64 (P q).f) := hbP5.cell 0 (by omega)
              have x1 : w5.cell? ⟨wr.heap.size, 1, none⟩ = some (.int .i64 (P q).t) := hbP5.cell 1 (by omega)
              have x2 : w5.cell? ⟨wr.heap.size, 2, none⟩ = some (.int .i64 (P q).k) := hbP5.cell 2 (by omega)
              have x3 : w5.cell? ⟨wr.heap.size, 3, none⟩ = some (.int .i64 (P q).v) := hbP5.cell 3 (by omega)
              have x4 : w5.cell? ⟨wr.heap.size, 4, none⟩ = some (.int .i64 (P q).l) := hbP5.cell 4 (by omega)
              have x5 : w5.cell? ⟨bv, 0, none⟩ = some (.int .i64 v.nd) := (HBX3.out.below b7 w3).cell 0 (by omega)
              gi_wp2
              refine ⟨trivial, fun _ => by omega, (callsIn_wide.2 (otherEnd_any (P q) v.nd _)).mono ?_⟩
              rintro e w6 ⟨rfl, b8⟩
              have b9 : Below wr.heap.size wr w6 := b7.trans (b8.mono (by omega))
              have hs6 := b8.size
              rw [HZ.out]
              clear x0 x1 x2 x3 x4 x5 x6
              have hof6 := HOF3.out.below b9 (by omega)
              have hfn6 := HFN3.out.keep (b9.block _ (by omega))
              have hbx6 := HBX3.out.below b9 w3
              have x0 : w6.cell? ⟨W.heap.size, Z, none⟩ = some (.bool (vhas gs (Z : Int))) := hof6.cell Z (by omega)
              have x1 : w6.frozen? ⟨W.heap.size, Z, none⟩ = false := hof6.free Z
              have x2 : w6.cell? ⟨bv, 2, none⟩ = some (.int .i64 v.ds) := hbx6.cell 2 (by omega)
              have x3 : W.heap.size < w6.heap.size := by omega
              have x4 : W.heap.size + 1 < w6.heap.size := by omega
              have x5 : bv < w6.heap.size := by omega
              have q2 : (0 : Int) ≤ (gs.length : Int) := Int.natCast_nonneg _
              have q3 : (gs.length : Int) < 24 := by omega
              have f0 : w6.frozen? ⟨W.heap.size + 1, gs.length * 3, none⟩ = false := hfn6.free _
              have f1 : w6.frozen? ⟨W.heap.size + 1, gs.length * 3 + 1, none⟩ = false := hfn6.free _
              have f2 : w6.frozen? ⟨W.heap.size + 1, gs.length * 3 + 2, none⟩ = false := hfn6.free _
              obtain ⟨t0, f3⟩ := hfn6.has (gs.length * 3) (by omega)
              obtain ⟨t1, f4⟩ := hfn6.has (gs.length * 3 + 1) (by omega)
              obtain ⟨t2, f5⟩ := hfn6.has (gs.length * 3 + 2) (by omega)
              gi_wp2
              have k1' := flag_more hof6 ⟨(Z : Int), q, v.ds + 1⟩ Z (by omega) rfl
              have k2' := hfn6.keep (Below.heap_setCell w6 ⟨W.heap.size, Z, none⟩ (.bool true) (W.heap.size + 1) (by simp))
              have k3' := k2'.more ⟨(Z : Int), q, v.ds + 1⟩ (by omega)
              have o1 : Only (W.heap.size + 1) (w6.setCell ⟨W.heap.size, Z, none⟩ (.bool true)) _ := (((Only.refl (W.heap.size + 1) (w6.setCell ⟨W.heap.size, Z, none⟩ (.bool true))).setCell (gs.length * 3) (.int .i64 (Z : Int))).setCell (gs.length * 3 + 1) (.int .i64 (q : Int))).setCell (gs.length * 3 + 2) (.int .i64 (v.ds + 1))
              have o2 := (Only.refl W.heap.size w6).setCell Z (.bool true)
              have u1 : ∀ X : Nat → Prop, X W.heap.size → X (W.heap.size + 1) → Upd X w6 _ := fun X h1 h2 => ((Upd.of_only o2).mono (fun b _ e => by rw [e]; exact h1)).trans ((Upd.of_only o1).mono (fun b _ e => by rw [e]; exact h2))
              have hz9 := (u1 (fun _ => True) trivial trivial).size
              rw [← HQ2.out]
              refine ⟨⟨_, _, _, _, _, _, _, _, _, _, _, _, _, _, _, _, _, _, _, _, _, _, _, _, _, _, _, _, _, _, _, _, _, _, _, _, _, _, _, ?rel, rfl⟩, ?measure⟩
              case rel => exact ⟨q + 1, gs ++ [⟨(Z : Int), q, v.ds + 1⟩], Y2, by go_num, hq, by simp, by rw [vrow_succ, ← HGS.out, hadd], hJ _ _ _ _ HJ3.out ((Upd.of_below b9).trans (u1 _ (.inl rfl) (.inr rfl))), (HU3.out.trans (Upd.of_below b9)).trans (u1 _ (by omega) (by omega)), by omega, k1'.only o1 (by omega), k3', (hbx6.only o2 (by omega)).only o1 (by omega), fun b hb => by have := HYB3.out b hb; exact ⟨by omega, this.2⟩⟩
              case measure => simp [intOf]; omega
            · gi_wp2
              refine ⟨trivial, fun _ => by omega, (callsIn_wide.2 (endsAt_any (P q) v.nd _)).mono ?_⟩
              rintro e w4 ⟨rfl, b4⟩
              have b5 : Below wr.heap.size wr w4 := (below_new wr _).trans (b4.mono (by simp))
              have hs4 := b4.size
              simp only [World.size_alloc] at hs4
              rw [hE]
              have hbP4 := hbP.below b4 (by simp)
              have x0 : w4.cell? ⟨wr.heap.size, 0, none⟩ = some (.int .i64 (P q).f) := hbP4.cell 0 (by omega)
              have x1 : w4.cell? ⟨wr.heap.size, 1, none⟩ = some (.int .i64 (P q).t) := hbP4.cell 1 (by omega)
              have x2 : w4.cell? ⟨wr.heap.size, 2, none⟩ = some (.int .i64 (P q).k) := hbP4.cell 2 (by omega)
              have x3 : w4.cell? ⟨wr.heap.size, 3, none⟩ = some (.int .i64 (P q).v) := hbP4.cell 3 (by omega)
              have x4 : w4.cell? ⟨wr.heap.size, 4, none⟩ = some (.int .i64 (P q).l) := hbP4.cell 4 (by omega)
              have x5 : w4.cell? ⟨bv, 0, none⟩ = some (.int .i64 v.nd) := (HBX3.out.below b5 w3).cell 0 (by omega)
              clear y0 y1 y2 y3 y4 w0 w2
              gi_wp2
              refine ⟨trivial, fun _ => by omega, (callsIn_wide.2 (otherEnd_any (P q) v.nd _)).mono ?_⟩
              rintro e w5 ⟨rfl, b6⟩
              have b7 : Below wr.heap.size wr w5 := b5.trans (b6.mono (by omega))
              have hs5 := b6.size
              rw [HZ.out]
              have x6 : w5.cell? ⟨W.heap.size, Z, none⟩ = some (.bool (vhas gs (Z : Int))) := (HOF3.out.below b7 (by omega)).cell Z (by omega)
              rw [hF] at x6
              clear x0 x1 x2 x3 x4 x5
              gi_wp2
              rw [← HQ2.out]
              refine ⟨⟨_, _, _, _, _, _, _, _, _, _, _, _, _, _, _, _, _, _, _, _, _, _, _, _, _, _, _, _, _, _, _, _, _, _, _, _, _, _, _, ?rel, rfl⟩, ?measure⟩
              case rel => exact ⟨q + 1, gs, Y2, by go_num, hq, rfl, by rw [vrow_succ, ← HGS.out]; unfold vadd; rw [hE, HZ.out]; simp [hF], hJ _ _ _ _ HJ3.out (Upd.of_below b7), HU3.out.trans (Upd.of_below b7), by omega, HOF3.out.below b7 (by omega), HFN3.out.keep (b7.block _ (by omega)), HBX3.out.below b7 w3, fun b hb => by have := HYB3.out b hb; exact ⟨by omega, this.2⟩⟩
              case measure => simp [intOf]; omega
        · obtain rfl : q = m := by omega
          gi_wp2
          rw [← HQ2.out]
          gi_wp2
          have hgv : vup P q (X0 : Nat) (k + 1) = gs := by rw [HGS.out, HFS.out]; exact vup_succ (by rw [← HFS.out]; exact hv)
          have hpg : fs <+: gs := by rw [← hgv, HFS.out]; exact vup_pre1 _ _ _ _
          have hkg : k + 1 ≤ gs.length := Nat.le_trans hlt hpg.length_le
          have htk : gs.take (k + 1) = fs.take k ++ [v] := by rw [← take_pre hpg (by omega), take_one hv]
          rw [← HQ.out]
          refine ⟨⟨_, _, _, _, _, _, _, _, _, _, _, _, _, _, _, _, _, _, _, _, _, _, _, _, _, _, _, _, _, _, _, _, _, _, _, _, _, _, _, _, _, _, _, _, _, _, _, _, _, _, _, _, _, _, _, _, ?rel, rfl⟩, ?measure⟩
          case rel => exact ⟨k + 1, gs, Y2, by go_num, rfl, hgv.symm, hkg, by rw [htk]; exact HJ3.out, HU3.out, hsz2, HOF3.out, HFN3.out, fun b hb => by have := HYB3.out b hb; exact ⟨this.1, this.2.1, this.2.2.1, this.2.2.2.2⟩⟩
          case measure => simp [intOf]; omega
    · have j2 : ¬ ((k : Int) < (fs.length : Int)) := by omega
      generalize hQ : Exit.then _ _ = Q
      have HQ := Lib.hid hQ
      clear hQ
      gi_wp2
      rw [← HQ.out]
      gi_wp2
      have hend : fs = vis n P m (X0 : Nat) := by rw [HFS.out]; exact vup_end hB ⟨i0, by omega⟩ (by rw [← HFS.out]; omega) (by omega)
      have htk : fs.take k = vis n P m (X0 : Nat) := by rw [List.take_of_length_le (by omega)]; exact hend
      rw [htk] at hj
      go_end0
      exact ⟨⟨_, rfl⟩, Y, hj⟩
end Go.Proofs.YtdbgcbkmcbgdiaaGreat.mem

namespace Go.Proofs.YtdbgcbkmcbgdiaaGreat.mem
open Go.RowKit
set_option linter.unusedVariables false
attribute [local go_sem] Oper.semAt_some

theorem NetAt.parts {w : World} {v : Value} {n : Nat} {N : Nat → Nod} {m : Nat} {P : Nat → Pip} {lo hi : Nat} (h : NetAt w v n N m P lo hi) :
    ∃ p0 c0 p1 c1, v = .agg #[.slice p0 n c0, .slice p1 m c1] ∧ n ≤ 9223372036854775807 ∧ m ≤ 9223372036854775807 := by
  obtain ⟨v0, v1, rfl, g0, g1⟩ := h.ex
  obtain ⟨p0, c0, rfl, h1, h2, _⟩ := g0.ex
  obtain ⟨p1, c1, rfl, h3, h4, _⟩ := g1.ex
  exact ⟨p0, c0, p1, c1, rfl, by omega, by omega⟩

/-- the value of an iterator of a search -/
theorem visitsFrom_any (nn : Nat) (h3 : 3 ≤ nn) (w : World) (v : Value) (n : Nat) (N : Nat → Nod) (m : Nat) (P : Nat → Pip) (lo hi : Nat) (h : NetAt w v n N m P lo hi) (hhi : hi ≤ w.heap.size) (hB : netB n N m P = true) (X0 : Nat) (hX : X0 < n) :
    Calls Tryz.prog 175 #[v, .int .i64 (X0 : Nat)] w fun e w' => ∃ lb, e = .returned (.func (.func 183) #[] lb) ∧
      SeqV Fence.wide nn Tryz.prog 183 lb encV (vis n P m (X0 : Nat)) (fun r => r < hi ∨ r = w.heap.size + 1 ∨ r = w.heap.size) w' ∧ Below w.heap.size w w' ∧ w.heap.size + 2 ≤ w'.heap.size := by
  obtain ⟨p0, c0, p1, c1, rfl, hn9, hm9⟩ := h.parts
  have HV := Lib.hid h
  have HB := Lib.hid hB
  have A0 := boxed w (.slice p0 n c0) (.slice p1 m c1) 27
  have B0 : Below w.heap.size w ((w.alloc (.cells #[.slice p0 n c0, .slice p1 m c1] 27)).alloc (.cells #[.int .i64 (X0 : Nat)] 2)) := below_alloc (below_new w _) (by simp) _
  have A1 := A0.keep (Below.heap_alloc _ (.cells #[.int .i64 (X0 : Nat)] 2) _ A0.lt)
  have A2 : Ob ((w.alloc (.cells #[.slice p0 n c0, .slice p1 m c1] 27)).alloc (.cells #[.int .i64 (X0 : Nat)] 2)) (w.heap.size + 1) 1 (fun _ => .int .i64 (X0 : Nat)) := by
    have := Ob.new (w.alloc (.cells #[.slice p0 n c0, .slice p1 m c1] 27)) #[.int .i64 (X0 : Nat)] 2 1 (fun _ => .int .i64 (X0 : Nat)) rfl (by intro k hk; have : k = 0 := (by omega); subst this; rfl)
    rwa [World.size_alloc] at this
  have H1 := Lib.hid A1
  have H2 := Lib.hid A2
  clear A0 A1 A2 h hB
  go_enter Tryz.func175, Tryz.ntmps175
  go_wp2_with fail
  go_ret
  exact ⟨_, rfl, visits1_any nn h3 _ _ n N m P lo hi (HV.out.below B0 hhi) hi (Nat.le_refl _) (Nat.le_trans hhi B0.size) HB.out X0 hX _ _ rfl _ _ H2.out H1.out, B0, by simp⟩

theorem one_new (w : World) (x : Int) (t : TypeId) : (w.alloc (.cells #[.int .i64 x] t)).cell? ⟨w.heap.size, 0, none⟩ = some (.int .i64 x) := by
  simp only [World.cell?, heap_alloc_new w (.cells #[.int .i64 x] t)]
  rfl

set_option maxRecDepth 100000 in
/-- -1 for each node -/
theorem unreached_any (w : World) (v : Value) (n : Nat) (N : Nat → Nod) (m : Nat) (P : Nat → Pip) (lo hi : Nat) (h : NetAt w v n N m P lo hi) (h1 : 1 ≤ n) (h2 : n ≤ 24) :
    Calls Tryz.prog 174 #[v] w fun e w' => ∃ g, e = .returned (.slice (some ⟨g, 0, none⟩) n n) ∧ w.heap.size ≤ g ∧ Ob w' g n (fun _ => .int .i64 (-1)) ∧ Below w.heap.size w w' := by
  obtain ⟨p0, c0, p1, c1, rfl, hn9, hm9⟩ := h.parts
  clear h
  have B0 : Below w.heap.size w ((w.alloc (.cells #[.slice p0 n c0, .slice p1 m c1] 27)).alloc (.cells #[.int .i64 (-1)] 2)) :=
    (below_new w (.cells #[.slice p0 n c0, .slice p1 m c1] 27)).trans ((below_new (w.alloc (.cells #[.slice p0 n c0, .slice p1 m c1] 27)) (.cells #[.int .i64 (-1)] 2)).mono (by rw [World.size_alloc]; omega))
  obtain ⟨W, hW⟩ : ∃ W, (w.alloc (.cells #[.slice p0 n c0, .slice p1 m c1] 27)).alloc (.cells #[.int .i64 (-1)] 2) = W := ⟨_, rfl⟩
  have hc : W.cell? ⟨w.heap.size + 1, 0, none⟩ = some (.int .i64 (-1)) := by
    rw [← hW]
    have := one_new (w.alloc (.cells #[.slice p0 n c0, .slice p1 m c1] 27)) (-1) 2
    rwa [World.size_alloc] at this
  have hs : w.heap.size + 2 = W.heap.size := by rw [← hW, World.size_alloc, World.size_alloc]
  rw [hW] at B0
  have HW := Lib.hid hW
  clear hW
  go_enter Tryz.func174, Tryz.ntmps174
  go_wp2_with (go_at_call 182; rw [HW.out]; refine (repeat_any W (w.heap.size + 1) n h1 h2 (by omega) hc).mono ?_; rintro e w2 ⟨rfl, o2, b2⟩)
  go_ret
  exact ⟨_, rfl, B0.size, o2, B0.trans (b2.mono B0.size)⟩
end Go.Proofs.YtdbgcbkmcbgdiaaGreat.mem

namespace Go.Proofs.YtdbgcbkmcbgdiaaGreat.mem
open Go.RowKit
set_option linter.unusedVariables false
attribute [local go_sem] Oper.semAt_some

/-- a variable's box -/
theorem Ob.one (w : World) (v : Value) (t : TypeId) : Ob (w.alloc (.cells #[v] t)) w.heap.size 1 (fun _ => v) := Ob.new w _ _ 1 _ rfl (by intro k hk; have : k = 0 := (by omega); subst this; rfl)
/-- a table over the nodes -/
def tabC (f : Int → Int) : Nat → Value := fun k => .int .i64 (f ((k : Nat) : Int))
/-- the invariant of a loop that fills a table in block g, which lies in the box be -/
def TabI (f : List Vs → Int → Int) (g be n : Nat) (v : Value) (w : World) (pre : List Vs) (Y : Nat → Prop) (A : World) : Prop :=
  Y = (fun b => b = g) ∧ Ob A g n (tabC (f pre)) ∧ Ob A be 1 (fun _ => v) ∧ Below w.heap.size w A

theorem TabI.upd {f : List Vs → Int → Int} {g be n : Nat} {v : Value} {w : World} {pre : List Vs} {Y X : Nat → Prop} {A B : World} (h : TabI f g be n v w pre Y A) (u : Upd X A B) (hg : ¬ X g) (hb : ¬ X be) (hX : ∀ k, X k → w.heap.size ≤ k) : TabI f g be n v w pre Y B := by
  obtain ⟨h1, h2, h3, h4⟩ := h
  exact ⟨h1, h2.keep (u.block _ h2.lt hg), h3.keep (u.block _ h3.lt hb), h4.trans (u.below h4.size (fun k _ hk => hX k hk))⟩
/-- the visit that a round gets: not yet visited, a node -/
theorem Vok.round {n : Nat} {P : Nat → Pip} {m : Nat} {x : Int} {fs pre post : List Vs} {u : Vs} (h : Vok n P m x fs) (e : fs = pre ++ u :: post) : vhas pre u.nd = false ∧ ∃ Z : Nat, u.nd = ((Z : Nat) : Int) ∧ Z < n := by
  have hg : fs[pre.length]? = some u := by rw [e]; simp
  have h1 := h.has_take hg
  rw [show fs.take pre.length = pre by rw [e]; simp] at h1
  obtain ⟨h2, h3⟩ := h.rng u (List.mem_of_getElem? hg)
  obtain ⟨Z, hZ⟩ := Int.eq_ofNat_of_zero_le h2
  exact ⟨h1, Z, hZ, by omega⟩
theorem tab_step {A : World} {g n : Nat} {f : Vs → Int} {pre : List Vs} {u : Vs} {Z : Nat} (h : Ob A g n (tabC (vval f pre))) (h1 : vhas pre u.nd = false) (hZ : u.nd = ((Z : Nat) : Int)) (hn : Z < n) :
    Ob (A.setCell ⟨g, Z, none⟩ (.int .i64 (f u))) g n (tabC (vval f (pre ++ [u]))) := by
  refine (h.set Z _ hn).congr fun k hk => ?_
  unfold updV tabC
  rw [vval_app h1, hZ]
  by_cases hkz : k = Z
  · subst hkz
    rw [if_pos rfl, if_pos rfl]
  · rw [if_neg hkz, if_neg (by omega)]

end Go.Proofs.YtdbgcbkmcbgdiaaGreat.mem

namespace Go.Proofs.YtdbgcbkmcbgdiaaGreat.mem
open Go.RowKit
set_option linter.unusedVariables false
attribute [local go_sem] Oper.semAt_some

end Go.Proofs.YtdbgcbkmcbgdiaaGreat.mem

namespace Go.Proofs.YtdbgcbkmcbgdiaaGreat.mem
open Go.RowKit
set_option linter.unusedVariables false

theorem fl_getS {p : Nat → Bool} {m i : Nat} (hi : i < (fl p m).length) : ((fl p m)[i]?).getD 0 < m ∧ p (((fl p m)[i]?).getD 0) = true := by
  rw [List.getElem?_eq_getElem hi, Option.getD_some]
  have := List.getElem_mem hi
  exact fl_lt this
/-- the pipes at a visit's node, looked at one after the other -/
def vls (P : Nat → Pip) (v : Vs) (l : List Nat) (fs : List Vs) : List Vs := l.foldl (vadd P v) fs
theorem vls_all (P : Nat → Pip) (v : Vs) (fs : List Vs) : ∀ m, vls P v (fl (paP P v.nd) m) fs = vrow P v m fs
  | 0 => rfl
  | m + 1 => by
    have ih := vls_all P v fs m
    rw [vrow_succ]
    cases h : paP P v.nd m
    · rw [fl_no h, ih]
      have h' : endB (P m) v.nd = false := h
      unfold vadd
      rw [h']
      rfl
    · rw [fl_yes h]
      unfold vls at ih ⊢
      rw [List.foldl_append, ih]
      rfl
theorem vls_one {P : Nat → Pip} {v : Vs} {l : List Nat} {i a : Nat} {fs : List Vs} (h : l[i]? = some a) : vls P v (l.take (i + 1)) fs = vadd P v (vls P v (l.take i) fs) a := by
  unfold vls
  rw [take_one h, List.foldl_append]
  rfl
theorem vls_pre (P : Nat → Pip) (v : Vs) : ∀ (l : List Nat) (fs : List Vs), fs <+: vls P v l fs
  | [], fs => List.prefix_refl _
  | a :: l, fs => (vadd_pre P v fs a).trans (vls_pre P v l (vadd P v fs a))
theorem Vok.ls {n : Nat} {N : Nat → Nod} {P : Nat → Pip} {m : Nat} {x : Int} {j : Nat} {u : Vs} (hN : netB n N m P = true) : ∀ (l : List Nat) (fs : List Vs), Vok n P m x fs → fs[j]? = some u → (∀ a ∈ l, a < m) → Vok n P m x (vls P u l fs)
  | [], _, h, _, _ => h
  | a :: l, fs, h, hu, hl => by
    refine Vok.ls hN l (vadd P u fs a) ?_ (pre_get (vadd_pre P u fs a) hu) (fun b hb => hl b (by simp [hb]))
    unfold vadd
    split
    · next hc =>
      simp only [Bool.and_eq_true, Bool.not_eq_true'] at hc
      exact h.app hu (hl a (by simp)) hc.1 hc.2 (oth_rng (net_pip hN (hl a (by simp))))
    · exact h
/-- the nodes of visits -/
def ordD (fs : List Vs) : Nat → Int := fun j => match fs[j]? with
  | some v => v.nd
  | none => 0
theorem ordD_some {fs : List Vs} {j : Nat} {v : Vs} (h : fs[j]? = some v) : ordD fs j = v.nd := by unfold ordD; rw [h]
theorem ordD_pre {a b : List Vs} (h : a <+: b) {j : Nat} (hj : j < a.length) : ordD b j = ordD a j := by
  have e := List.getElem?_eq_getElem hj
  rw [ordD_some e, ordD_some (pre_get h e)]
theorem ordD_last (fs : List Vs) (v : Vs) : ordD (fs ++ [v]) fs.length = v.nd := ordD_some (by simp)
theorem tab_more {A : World} {g n : Nat} {f : Vs → Int} {pre : List Vs} {u : Vs} {Z : Nat} (h : Ob A g n (tabC (vval f pre))) (h1 : vhas pre u.nd = false) (hZ : u.nd = ((Z : Nat) : Int)) (hn : Z < n) :
    Ob (A.setCell ⟨g, Z, none⟩ (.int .i64 (f u))) g n (tabC (vval f (pre ++ [u]))) := tab_step h h1 hZ hn
theorem flag_set {w : World} {b n : Nat} {fs : List Vs} (h : Ob w b n (flagC fs)) (v : Vs) (k : Nat) (hk : k < n) (e : v.nd = (k : Int)) : Ob (w.setCell ⟨b, k, none⟩ (.bool true)) b n (flagC (fs ++ [v])) := by
  refine (h.set k (.bool true) hk).congr fun j hj => ?_
  unfold updV flagC
  rw [vhas_app, e]
  by_cases hjk : j = k
  · subst hjk
    simp
  · rw [if_neg hjk]
    have : (((k : Nat) : Int) == ((j : Nat) : Int)) = false := by rw [beq_eq_false_iff_ne]; omega
    rw [this, Bool.or_false]
theorem info_make_bool : (Tryz.prog.info? 4).map (fun i => (i.zero, i.size, i.bytes)) = some (some (.bool false), 1, 1) := by kernel_rfl
def falses (n : Nat) : Array Value := madeCells #[.bool false] n
theorem make_bool (W : World) (n : Nat) (hn : n ≤ 2000000) : Sem.run Tryz.prog (Instr.makeSlice 157 (.int .i64 n) (.int .i64 n)) W = .ok (.slice (some ⟨W.heap.size, 0, none⟩) n n) (W.alloc (.cells (falses n) 4)) := by
  obtain ⟨i0, hi, hz0, hz1, hz2⟩ := info_parts info_make_bool
  have h := run_make (P := Tryz.prog) W 157 4 i0 (.bool false) Tryz.underlying157 hi hz0 .i64 .i64 (n : Int) (n : Int) (by omega) (Int.le_refl _) (by rw [hz2]; omega) (by omega)
  rw [hz1] at h
  simpa [falses, Value.cells] using h
theorem falses_get (n k : Nat) (h : k < n) : (falses n)[k]? = some (.bool false) := by
  unfold falses madeCells
  have : k % 1 = 0 := Nat.mod_one k
  simp [h, this]
theorem size_falses (n : Nat) : (falses n).size = n := by simp [falses, madeCells]
theorem size_zeros (n : Nat) : (zeros n).size = n := by simp [zeros, madeCells]
theorem ob_zeros (w : World) (n : Nat) (t : TypeId) : Ob (w.alloc (.cells (zeros n) t)) w.heap.size n (fun _ => .int .i64 0) := Ob.new w _ _ n _ (size_zeros n) (fun k hk => zeros_get n k hk)
theorem ob_falses (w : World) (n : Nat) (t : TypeId) : Ob (w.alloc (.cells (falses n) t)) w.heap.size n (flagC []) := Ob.new w _ _ n _ (size_falses n) (fun k hk => falses_get n k hk)
/-- the first k cells are -1 -/
def fillC (k : Nat) : Nat → Value := fun j => .int .i64 (if j < k then -1 else 0)
theorem fill_set {w : World} {g n k : Nat} (h : Ob w g n (fillC k)) (hk : k < n) : Ob (w.setCell ⟨g, k, none⟩ (.int .i64 (-1))) g n (fillC (k + 1)) := by
  refine (h.set k _ hk).congr fun j hj => ?_
  unfold updV fillC
  by_cases e : j = k
  · subst e
    rw [if_pos rfl, if_pos (by omega)]
  · rw [if_neg e]
    by_cases h1 : j < k
    · rw [if_pos h1, if_pos (by omega)]
    · rw [if_neg h1, if_neg (by omega)]
end Go.Proofs.YtdbgcbkmcbgdiaaGreat.mem

namespace Go.Proofs.YtdbgcbkmcbgdiaaGreat.mem
open Go.RowKit
set_option linter.unusedVariables false

theorem Own.one (w : World) (x : Int) : Own (w.alloc (.cells #[.int .i64 x] 2)) (.slice (some ⟨w.heap.size, 0, none⟩) 1 1) 1 (fun _ => x) w.heap.size :=
  ⟨1, _, rfl, heap_alloc_new w _, Nat.le_refl _, by simp [maxLen], rfl, fun k hk => by have : k = 0 := (by omega); subst this; rfl⟩
/-- what lies in the search's own blocks: the box, the entries, the flags -/
structure SrM (w : World) (v0 v1 : Value) (n : Nat) (fs : List Vs) (wr : World) : Prop where
  box : Ob wr w.heap.size 2 (bx v0 v1)
  ent : Ob wr (w.heap.size + 1) n (tabC (vval (·.en) fs))
  flg : Ob wr (w.heap.size + 2) n (flagC fs)
  bel : Below w.heap.size w wr
theorem SrM.keep {w : World} {v0 v1 : Value} {n : Nat} {fs : List Vs} {wr w' : World} (h : SrM w v0 v1 n fs wr) (b : Below (w.heap.size + 3) wr w') : SrM w v0 v1 n fs w' :=
  ⟨h.box.below b (by omega), h.ent.below b (by omega), h.flg.below b (by omega), h.bel.trans (b.mono (by omega))⟩
/-- between two nodes -/
def SRel (w : World) (v0 v1 : Value) (n : Nat) (P : Nat → Pip) (m : Nat) (x : Int) (ov kv : Value) (wr : World) : Prop :=
  ∃ (k : Nat) (fs : List Vs) (go : Nat), kv = .int .i64 k ∧ fs = vup P m x k ∧ k ≤ fs.length ∧ Own wr ov fs.length (ordD fs) go ∧ w.heap.size + 3 ≤ go ∧ SrM w v0 v1 n fs wr
/-- between two pipes at a node -/
def SRel2 (w : World) (v0 v1 : Value) (n : Nat) (P : Nat → Pip) (v : Vs) (l : List Nat) (d : Nat → Int) (fs : List Vs) (av : Value) (ga : Nat) (ov iv : Value) (wr : World) : Prop :=
  ∃ (i : Nat) (gs : List Vs) (go : Nat), iv = .int .i64 i ∧ i ≤ l.length ∧ gs = vls P v (l.take i) fs ∧ Own wr ov gs.length (ordD gs) go ∧ w.heap.size + 3 ≤ go ∧ Own wr av l.length d ga ∧ ga ≠ go ∧ SrM w v0 v1 n gs wr

set_option maxRecDepth 100000 in
set_option maxHeartbeats 4000000 in
theorem l04Search_any (w : World) (v : Value) (n : Nat) (N : Nat → Nod) (m : Nat) (P : Nat → Pip) (lo hi : Nat) (h : NetAt w v n N m P lo hi) (hhi : hi ≤ w.heap.size) (hN : ∀ i, i < n → (N i).s.size ≤ 9223372036854775807) (hB : netB n N m P = true) (X0 : Nat) (hX : X0 < n) :
    Calls Tryz.prog 100 #[v, .int .i64 (X0 : Nat)] w fun e w' => ∃ v2 g2, e = .returned (.tuple #[.slice (some ⟨w.heap.size + 1, 0, none⟩) n n, v2]) ∧ Ob w' (w.heap.size + 1) n (tabC (vval (·.en) (vis n P m (X0 : Nat)))) ∧
      Own w' v2 (vis n P m (X0 : Nat)).length (ordD (vis n P m (X0 : Nat))) g2 ∧ w.heap.size + 3 ≤ g2 ∧ Below w.heap.size w w' := by
  obtain ⟨p0, c0, p1, c1, rfl, hn9, hm9⟩ := h.parts
  obtain ⟨hn1, hn24, hm40⟩ := net_sz hB
  have HV := Lib.hid h
  have HN := Lib.hid hN
  have HB := Lib.hid hB
  have HPI := Lib.hid (fun k (hk : k < m) => net_pip hB hk)
  have HOKK := Lib.hid (vup_ok (x := ((X0 : Nat) : Int)) hB ⟨Int.natCast_nonneg _, by omega⟩)
  have HEND := Lib.hid (fun i (h1 : (vup P m ((X0 : Nat) : Int) i).length ≤ i) (h2 : i ≤ n) => vup_end hB ⟨Int.natCast_nonneg _, by omega⟩ h1 h2)
  have A0 := boxed w (.slice p0 n c0) (.slice p1 m c1) 27
  have B0 := below_new w (.cells #[.slice p0 n c0, .slice p1 m c1] 27)
  obtain ⟨w1, hw1⟩ : ∃ w1, w.alloc (.cells #[.slice p0 n c0, .slice p1 m c1] 27) = w1 := ⟨_, rfl⟩
  have hs1 : w1.heap.size = w.heap.size + 1 := by rw [← hw1]; simp
  rw [hw1] at A0 B0
  have O1 := ob_zeros w1 n 2
  obtain ⟨w2, hw2⟩ : ∃ w2, w1.alloc (.cells (zeros n) 2) = w2 := ⟨_, rfl⟩
  have hs2 : w2.heap.size = w.heap.size + 2 := by rw [← hw2]; simp [hs1]
  have b2 : Below w1.heap.size w1 w2 := by rw [← hw2]; exact below_new _ _
  rw [hw2] at O1
  have O2 := ob_falses w2 n 4
  obtain ⟨w3, hw3⟩ : ∃ w3, w2.alloc (.cells (falses n) 4) = w3 := ⟨_, rfl⟩
  have hs3 : w3.heap.size = w.heap.size + 3 := by rw [← hw3]; simp [hs2]
  have b3 : Below w2.heap.size w2 w3 := by rw [← hw3]; exact below_new _ _
  rw [hw3] at O2
  rw [hs1] at O1
  rw [hs2] at O2
  have A2 := A0.below b2 (by omega)
  have A3 := A2.below b3 (by omega)
  have O1' := O1.below b3 (by omega)
  have B3 := (B0.trans (b2.mono (by omega))).trans (b3.mono (by omega))
  have H3 := Lib.hid (show Ob w3 w.heap.size 2 (bx (.slice p0 n c0) (.slice p1 m c1)) ∧ Ob w3 (w.heap.size + 1) n (fillC 0) ∧ Ob w3 (w.heap.size + 2) n (flagC []) ∧ Below w.heap.size w w3 from ⟨A3, O1'.congr (fun k hk => by unfold fillC; rw [if_neg (by omega)]), O2, B3⟩)
  have e0 : w2.cell? ⟨w.heap.size, 0, none⟩ = some (.slice p0 n c0) := A2.b0
  have e1 : w.heap.size < w2.heap.size := by omega
  have m1 := fun W => make_int64 W n (by omega)
  have m2 := fun W => make_bool W n (by omega)
  clear h hN hB A0 B0 O1 O2 O1' B3 A2 A3 b2 b3 hs1 hs2
  subst hw3 hw2 hw1
  go_enter Tryz.func100, Tryz.ntmps100
  go_wp2
  generalize hW : ((w.alloc (Obj.cells #[Value.slice p0 n c0, Value.slice p1 m c1] 27)).alloc (Obj.cells (zeros n) 2)).alloc (Obj.cells (falses n) 4) = w3 at *
  clear hW e0 e1 m1 m2
  go_loopw [8] (fun i wr => ∃ k : Nat, i = .int .i64 k ∧ k ≤ n ∧ Ob wr (w.heap.size + 1) n (fillC k) ∧ Ob wr w.heap.size 2 (bx (.slice p0 n c0) (.slice p1 m c1)) ∧ Ob wr (w.heap.size + 2) n (flagC []) ∧ Below w.heap.size w wr ∧ wr.heap.size = w.heap.size + 3) (fun i _ => n - (intOf i).toNat)
  case atStart => exact ⟨0, rfl, Nat.zero_le _, H3.out.2.1, H3.out.1, H3.out.2.2.1, H3.out.2.2.2, hs3⟩
  case round =>
    obtain ⟨k, rfl, hk, he, hbx, hfl, hbl, hsz⟩ := hrel
    have HE := Lib.hid he
    have HX := Lib.hid hbx
    have HF := Lib.hid hfl
    have HL := Lib.hid hbl
    clear he hbx hfl hbl H3
    have i0 : (0 : Int) ≤ (k : Int) := Int.natCast_nonneg _
    by_cases hlt : k < n
    · have j0 : (k : Int) < (n : Int) := by omega
      have y0 : wr.cell? ⟨w.heap.size + 1, k, none⟩ = some (fillC k k) := HE.out.cell k hlt
      have y1 : wr.frozen? ⟨w.heap.size + 1, k, none⟩ = false := HE.out.free k
      have o1 := (Only.refl (w.heap.size + 1) wr).setCell k (.int .i64 (-1))
      generalize hQ : Exit.then _ _ = Q
      have HQ := Lib.hid hQ
      clear hQ
      go_wp2
      rw [← HQ.out]
      refine ⟨⟨_, _, _, _, _, _, _, _, _, _, ?rel, rfl⟩, ?measure⟩
      case rel => exact ⟨k + 1, by go_num, hlt, fill_set HE.out hlt, HX.out.only o1 (by omega), HF.out.only o1 (by omega), HL.out.trans (o1.below (by omega)), by rw [sz_set]; exact hsz⟩
      case measure => simp [intOf]; omega
    · have hkn : n = k := by omega
      subst hkn
      have j0 : ¬ ((n : Int) < (n : Int)) := by omega
      have x0 : (0 : Int) ≤ (X0 : Int) := Int.natCast_nonneg _
      have x1 : (X0 : Int) < (n : Int) := by omega
      have y0 : wr.cell? ⟨w.heap.size + 1 + 1, X0, none⟩ = some (flagC [] X0) := HF.out.cell X0 hX
      have y1 : wr.frozen? ⟨w.heap.size + 1 + 1, X0, none⟩ = false := HF.out.free X0
      have o1 := (Only.refl (w.heap.size + 2) wr).setCell X0 (.bool true)
      have f1 := flag_set HF.out ⟨X0, -1, 0⟩ X0 hX rfl
      have M1 : SrM w (.slice p0 n c0) (.slice p1 m c1) n [⟨X0, -1, 0⟩] (wr.setCell ⟨w.heap.size + 2, X0, none⟩ (.bool true)) := ⟨HX.out.only o1 (by omega), (HE.out.only o1 (by omega)).congr (fun j hj => by
        unfold fillC tabC vval
        rw [if_pos hj]
        cases hq : (((X0 : Nat) : Int) == ((j : Nat) : Int)) <;> simp [hq]), f1, HL.out.trans (o1.below (by omega))⟩
      have hz1 : (wr.setCell ⟨w.heap.size + 2, X0, none⟩ (.bool true)).heap.size = w.heap.size + 3 := by rw [sz_set]; exact hsz
      have M2 := M1.keep ((below_new _ (.cells #[.int .i64 (X0 : Nat)] 2)).mono (by omega))
      have W2 := Own.one (wr.setCell ⟨w.heap.size + 2, X0, none⟩ (.bool true)) ((X0 : Nat) : Int)
      rw [hz1] at W2
      have HM2 := Lib.hid M2
      have HW2 := Lib.hid W2
      clear M1 M2 W2 f1 o1 HE HX HF HL
      go_wp2
      generalize hW4 : (wr.setCell _ _).alloc _ = w4 at *
      clear hW4 y0 y1 x0 x1 j0 i0 hk hlt
      go_loopw [9, 10] (fun ov kv wr => SRel w (.slice p0 n c0) (.slice p1 m c1) n P m ((X0 : Nat) : Int) ov kv wr) (fun _ kv _ => n - (intOf kv).toNat)
      case atStart => exact ⟨0, _, _, rfl, rfl, Nat.zero_le _, HW2.out.congr (fun j hj => by have : j = 0 := (by simp at hj; omega); subst this; rfl), Nat.le_refl _, HM2.out⟩
      case round =>
        clear HM2 HW2
        obtain ⟨k, fs, go, rfl, hfs, hk, ho, hgo, hM⟩ := hrel
        obtain ⟨co, rfl⟩ := ho.shape
        have ok := HOKK.out k
        rw [← hfs] at ok
        have hlen := ok.len
        have HFS := Lib.hid hfs
        have HO := Lib.hid ho
        have HM := Lib.hid hM
        have HOK := Lib.hid ok
        have e0 : wr.cell? ⟨w.heap.size, 0, none⟩ = some (.slice p0 n c0) := hM.box.b0
        have e1 : wr.cell? ⟨w.heap.size, 1, none⟩ = some (.slice p1 m c1) := hM.box.b1
        have hlt0 := hM.box.lt
        have hlt1 := hM.ent.lt
        have hlt2 := hM.flg.lt
        have hltg := ho.lt
        clear hfs ho hM ok
        by_cases hlt : k < fs.length
        · obtain ⟨v, hv⟩ : ∃ v, fs[k]? = some v := ⟨_, List.getElem?_eq_getElem hlt⟩
          have HVK := Lib.hid hv
          have y0 : wr.cell? ⟨go, k, none⟩ = some (.int .i64 v.nd) := by
            have := HO.out.row.cell k hlt
            rwa [ordD_some hv] at this
          have j0 : (0 : Int) ≤ (k : Int) := Int.natCast_nonneg _
          have j1 : (k : Int) < (fs.length : Int) := by omega
          clear hv
          generalize hQ : Exit.then _ _ = Q
          have HQ := Lib.hid hQ
          clear hQ
          go_wp2
          go_region_held3 (fun w' => w'.cell? ⟨w.heap.size, 0, none⟩ = some (.slice p0 n c0) ∧ w'.cell? ⟨w.heap.size, 1, none⟩ = some (.slice p1 m c1) ∧ w'.cell? ⟨go, k, none⟩ = some (.int .i64 v.nd))
            (first | exact ⟨e0, e1, y0⟩ | exact SW)
            (first | (go_at_call 147; refine (l02At_any _ _ n N m P lo hi (HV.out.below HM.out.bel hhi).drew (by simp; omega) HN.out (by omega) v.nd).mono ?_; rintro e w4' ⟨av, ga, rfl, hat, hga, hb1⟩; have hb2 := below_dr0 hb1; have hs4 := hb2.size; have SW : w4'.cell? ⟨w.heap.size, 0, none⟩ = some (.slice p0 n c0) ∧ w4'.cell? ⟨w.heap.size, 1, none⟩ = some (.slice p1 m c1) ∧ w4'.cell? ⟨go, k, none⟩ = some (.int .i64 v.nd) := ⟨(hb2.cell (p := ⟨w.heap.size, 0, none⟩) hlt0).trans e0, (hb2.cell (p := ⟨w.heap.size, 1, none⟩) hlt0).trans e1, (hb2.cell (p := ⟨go, k, none⟩) hltg).trans y0⟩))
          have hga' : wr.heap.size ≤ ga := hga
          have hga3 : w.heap.size + 3 ≤ ga := by omega
          have hgne : ga ≠ go := by omega
          clear hga
          have hlta := hat.lt
          have HM4 := Lib.hid (HM.out.keep (hb2.mono (by omega)))
          have HO4 := Lib.hid (HO.out.below hb2 (Nat.le_refl _))
          obtain ⟨ca, rfl⟩ := hat.shape
          have HAT := Lib.hid hat
          clear hat SW hb1 hb2 HM HO e0 e1 y0
          generalize hl : fl (paP P v.nd) m = l at *
          generalize hd : fd (paP P v.nd) m = d at *
          have HLL := Lib.hid hl
          have HDD := Lib.hid hd
          clear hl hd hs4
          have hll : l.length ≤ 40 := by rw [← HLL.out]; have := fl_le (paP P v.nd) m; omega
          go_wp2
          go_loopw [9, 12] (fun ov iv wr => SRel2 w (.slice p0 n c0) (.slice p1 m c1) n P v l d fs (.slice (some ⟨ga, 0, none⟩) l.length ca) ga ov iv wr) (fun _ iv _ => l.length - (intOf iv).toNat)
          case atStart => exact ⟨0, fs, go, rfl, Nat.zero_le _, rfl, HO4.out, hgo, HAT.out, hgne, HM4.out⟩
          case round =>
            clear HM4 HO4 HAT hlta hltg hlt0 hlt1 hlt2
            obtain ⟨i, gs, g2, rfl, hil0, hgs, ho, hg2, hat, hne, hM⟩ := hrel
            obtain ⟨co2, rfl⟩ := ho.shape
            have hpg : fs <+: gs := by rw [hgs]; exact vls_pre _ _ _ _
            have hgk : gs[k]? = some v := pre_get hpg HVK.out
            have hkg := get_lt hgk
            have okg : Vok n P m ((X0 : Nat) : Int) gs := by
              rw [hgs]
              exact Vok.ls HB.out _ _ HOK.out HVK.out (fun a ha => by
                have := List.mem_of_mem_take ha
                rw [← HLL.out] at this
                exact (fl_lt this).1)
            have HGS := Lib.hid hgs
            have HO := Lib.hid ho
            have HM := Lib.hid hM
            have HAT := Lib.hid hat
            have e0 : wr.cell? ⟨w.heap.size, 0, none⟩ = some (.slice p0 n c0) := hM.box.b0
            have e1 : wr.cell? ⟨w.heap.size, 1, none⟩ = some (.slice p1 m c1) := hM.box.b1
            have hlt0 := hM.box.lt
            have hlt1 := hM.ent.lt
            have hlt2 := hM.flg.lt
            have hltg := ho.lt
            have hlta := hat.lt
            clear hgs ho hM hat
            generalize hQ2 : Exit.then _ _ = Q2
            have HQ2 := Lib.hid hQ2
            clear hQ2
            by_cases hil : i < l.length
            · obtain ⟨a, ha⟩ : ∃ a, l[i]? = some a := ⟨_, List.getElem?_eq_getElem hil⟩
              have hag : a < m ∧ endB (P a) v.nd = true := by
                have := List.mem_of_getElem? ha
                rw [← HLL.out] at this
                exact fl_lt this
              have hda : d i = (a : Int) := by
                rw [← HDD.out]
                unfold fd
                rw [HLL.out, ha]
                rfl
              have y0 : wr.cell? ⟨g2, k, none⟩ = some (.int .i64 v.nd) := by
                have := HO.out.row.cell k hkg
                rwa [ordD_some hgk] at this
              have y1 : wr.cell? ⟨ga, i, none⟩ = some (.int .i64 (a : Int)) := by
                have := HAT.out.row.cell i hil
                rwa [hda] at this
              have q0 : (0 : Int) ≤ (i : Int) := Int.natCast_nonneg _
              have q1 : (i : Int) < (l.length : Int) := by omega
              have q2 : (k : Int) < (gs.length : Int) := by omega
              have hpa := HPI.out a hag.1
              obtain ⟨hz0, hz1⟩ := oth_rng hpa (y := v.nd)
              obtain ⟨Z, hZ⟩ := Int.eq_ofNat_of_zero_le hz0
              have HZ := Lib.hid hZ
              have hsum : (P a).f + (P a).t - v.nd = (Z : Int) := by rw [sum_other hpa hag.2, hZ]
              have HSUM := Lib.hid hsum
              have HAG := Lib.hid hag
              have hzn : Z < n := by omega
              have hvr := okg.rng v (List.mem_of_getElem? hgk)
              have q3 : (0 : Int) ≤ (Z : Int) := Int.natCast_nonneg _
              have q4 : (Z : Int) < (n : Int) := by omega
              have HAI := Lib.hid ha
              have HHA := Lib.hid hag.1
              clear hz0 hz1 hZ hsum hag hda ha
              go_wp2
              go_region_held3 (fun w' => w'.cell? ⟨w.heap.size, 0, none⟩ = some (.slice p0 n c0) ∧ w'.cell? ⟨w.heap.size, 1, none⟩ = some (.slice p1 m c1) ∧ w'.cell? ⟨g2, k, none⟩ = some (.int .i64 v.nd) ∧ w'.cell? ⟨ga, i, none⟩ = some (.int .i64 (a : Int)))
                (first | exact ⟨e0, e1, y0, y1⟩ | exact SW)
                (first | (go_at_call 101; refine (l02Other_any _ _ n N m P lo hi (HV.out.below HM.out.bel hhi).drew (by simp; omega) HN.out (by omega) a HHA.out v.nd hpa (by omega) (inR_iff.2 ⟨hvr.1, by omega⟩)).mono ?_; rintro e w5 ⟨rfl, hb1⟩; rw [HSUM.out]; have hb2 := below_dr0 hb1; have hs5 := hb2.size; have SW : w5.cell? ⟨w.heap.size, 0, none⟩ = some (.slice p0 n c0) ∧ w5.cell? ⟨w.heap.size, 1, none⟩ = some (.slice p1 m c1) ∧ w5.cell? ⟨g2, k, none⟩ = some (.int .i64 v.nd) ∧ w5.cell? ⟨ga, i, none⟩ = some (.int .i64 (a : Int)) := ⟨(hb2.cell (p := ⟨w.heap.size, 0, none⟩) hlt0).trans e0, (hb2.cell (p := ⟨w.heap.size, 1, none⟩) hlt0).trans e1, (hb2.cell (p := ⟨g2, k, none⟩) hltg).trans y0, (hb2.cell (p := ⟨ga, i, none⟩) hlta).trans y1⟩))
              have HM5 := Lib.hid (HM.out.keep (hb2.mono (by omega)))
              have HO5 := Lib.hid (HO.out.below hb2 (Nat.le_refl _))
              have HAT5 := Lib.hid (HAT.out.below hb2 (Nat.le_refl _))
              have y5 : w5.cell? ⟨ga, i, none⟩ = some (.int .i64 (a : Int)) := SW.2.2.2
              clear SW hb1 hb2 HM HO HAT e0 e1 y0 y1
              have hvl : vls P v (l.take (i + 1)) fs = vadd P v gs a := by rw [vls_one HAI.out, ← HGS.out]
              have y6 : w5.cell? ⟨w.heap.size + 1 + 1, Z, none⟩ = some (.bool (vhas gs (Z : Int))) := HM5.out.flg.cell Z hzn
              cases hF : vhas gs (Z : Int)
              · rw [hF] at y6
                obtain ⟨u, hu⟩ : ∃ u : Vs, u = ⟨(Z : Int), (a : Int), v.ds + 1⟩ := ⟨_, rfl⟩
                have hadd : vadd P v gs a = gs ++ [u] := by unfold vadd; rw [HAG.out.2, HZ.out, hu]; simp [hF]
                rw [hadd] at hvl
                have hund : u.nd = ((Z : Nat) : Int) := by rw [hu]
                have huen : u.en = ((a : Nat) : Int) := by rw [hu]
                have okq : Vok n P m ((X0 : Nat) : Int) (gs ++ [u]) := by
                  rw [← hvl]
                  exact Vok.ls HB.out _ _ HOK.out HVK.out (fun a ha => by
                    have := List.mem_of_mem_take ha
                    rw [← HLL.out] at this
                    exact (fl_lt this).1)
                have hlg := okq.len
                simp only [List.length_append, List.length_cons, List.length_nil] at hlg
                have HVL := Lib.hid hvl
                have y7 : w5.frozen? ⟨w.heap.size + 1 + 1, Z, none⟩ = false := HM5.out.flg.free Z
                have y8 : w5.cell? ⟨w.heap.size + 1, Z, none⟩ = some (tabC (vval (·.en) gs) Z) := HM5.out.ent.cell Z hzn
                have y9 : w5.frozen? ⟨w.heap.size + 1, Z, none⟩ = false := HM5.out.ent.free Z
                have l5 := HM5.out.flg.lt
                have lg5 := HO5.out.lt
                have la5 := HAT5.out.lt
                have o1 := (Only.refl (w.heap.size + 2) w5).setCell Z (.bool true)
                have o2 := (Only.refl (w.heap.size + 1) (w5.setCell ⟨w.heap.size + 2, Z, none⟩ (.bool true))).setCell Z (.int .i64 (a : Int))
                have F6 := (flag_set HM5.out.flg u Z hzn hund).only o2 (by omega)
                have E6 := tab_more (HM5.out.ent.only o1 (by omega)) (by rw [hund]; exact hF) hund hzn
                rw [huen] at E6
                have X6 := (HM5.out.box.only o1 (by omega)).only o2 (by omega)
                have B6 := (HM5.out.bel.trans (o1.below (by omega))).trans (o2.below (by omega))
                have A6 := (HAT5.out.keep (o1.block ga (by omega))).keep (o2.block ga (by omega))
                have O6 := ((HO5.out.keep (o1.block g2 (by omega))).keep (o2.block g2 (by omega))).congr (fun j hj => (ordD_pre (List.prefix_append gs [u]) hj).symm)
                have M6 : SrM w (.slice p0 n c0) (.slice p1 m c1) n (gs ++ [u]) _ := ⟨X6, E6, F6, B6⟩
                have z6 : ((w5.setCell ⟨w.heap.size + 2, Z, none⟩ (.bool true)).setCell ⟨w.heap.size + 1, Z, none⟩ (.int .i64 (a : Int))).heap.size = w5.heap.size := by rw [sz_set, sz_set]
                obtain ⟨w6, hw6⟩ : ∃ w6, (w5.setCell ⟨w.heap.size + 2, Z, none⟩ (.bool true)).setCell ⟨w.heap.size + 1, Z, none⟩ (.int .i64 (a : Int)) = w6 := ⟨_, rfl⟩
                rw [hw6] at M6 A6 O6 z6
                have cn := cell_new1 w6 ((Z : Nat) : Int)
                rw [z6] at cn
                obtain ⟨v7, w7, g7, hr, ap⟩ := app_run (w6.alloc (.cells #[.int .i64 (Z : Int)] 2)) _ gs.length _ g2 ((Z : Nat) : Int) w5.heap.size (O6.alloc _) cn (by omega)
                have O7 := ap.own.congr (e := ordD (gs ++ [u])) (fun j hj => by
                  unfold upd
                  split
                  · next hjn => rw [hjn, ordD_last, hund]
                  · rfl)
                have oa := ap.other (c := ga) (by omega) (by rw [szal]; omega)
                have bl := ap.below (B := w.heap.size + 3) hg2 (by rw [szal]; omega)
                have A7 := (A6.alloc (.cells #[.int .i64 (Z : Int)] 2)).keep oa.1
                have M7 := M6.keep ((below_alloc (Below.refl _ w6) (by omega) (.cells #[.int .i64 (Z : Int)] 2)).trans bl.1)
                have HO7 := Lib.hid O7
                have HA7 := Lib.hid A7
                have HM7 := Lib.hid M7
                have HG7 := bl.2
                have HNE := oa.2
                clear O7 A7 M7 bl oa ap cn z6 M6 A6 O6 B6 X6 E6 F6 o1 o2 okq hadd hund huen hvl
                rw [← hw6] at hr
                clear hw6 hu
                go_wp2_with (at_builtin; refine wpList_app hr rfl _ _ rfl rfl rfl rfl ?_)
                rw [← HQ2.out]
                refine ⟨⟨_, _, _, _, _, _, _, _, _, _, _, _, _, _, _, _, _, _, _, _, _, _, _, _, _, _, _, _, _, _, _, _, _, _, _, _, _, _, ?rel, rfl⟩, ?measure⟩
                case rel => exact ⟨i + 1, gs ++ [u], g7, by go_num, hil, HVL.out.symm, by simpa using HO7.out, HG7, HA7.out, HNE, HM7.out⟩
                case measure => simp [intOf]; omega
              · rw [hF] at y6
                have hadd : vadd P v gs a = gs := by unfold vadd; rw [HZ.out]; simp [hF]
                rw [hadd] at hvl
                have HVL := Lib.hid hvl
                clear hvl hadd
                go_wp2
                rw [← HQ2.out]
                refine ⟨⟨_, _, _, _, _, _, _, _, _, _, _, _, _, _, _, _, _, _, _, _, _, _, _, _, _, _, _, _, _, _, _, _, _, _, _, _, _, _, ?rel, rfl⟩, ?measure⟩
                case rel => exact ⟨i + 1, gs, g2, by go_num, hil, HVL.out.symm, HO5.out, hg2, HAT5.out, hne, HM5.out⟩
                case measure => simp [intOf]; omega
            · have hie : i = l.length := by omega
              have q1 : ¬ ((i : Int) < (l.length : Int)) := by omega
              have hgv : gs = vup P m ((X0 : Nat) : Int) (k + 1) := by
                rw [HGS.out, hie, List.take_length, ← HLL.out, vls_all, HFS.out]
                exact (vup_succ (by rw [← HFS.out]; exact HVK.out)).symm
              have HGV := Lib.hid hgv
              clear hgv hie
              go_wp2
              rw [← HQ2.out]
              go_wp2
              rw [← HQ.out]
              refine ⟨⟨_, _, _, _, _, _, _, _, _, _, _, _, _, _, _, _, _, _, _, _, _, _, _, _, _, _, _, _, _, _, _, _, _, _, _, _, _, _, _, _, _, _, _, _, _, _, _, _, _, _, _, _, ?rel, rfl⟩, ?measure⟩
              case rel => exact ⟨k + 1, gs, g2, by go_num, HGV.out, hkg, HO.out, hg2, HM.out⟩
              case measure => simp [intOf]; omega
        · have hke : k = fs.length := by omega
          have j1 : ¬ ((k : Int) < (fs.length : Int)) := by omega
          have hvis : fs = vis n P m ((X0 : Nat) : Int) := by rw [HFS.out]; exact HEND.out k (by rw [← HFS.out]; omega) (by omega)
          have HVI := Lib.hid hvis
          clear hvis hke
          generalize hQ : Exit.then _ _ = Q
          have HQ := Lib.hid hQ
          clear hQ
          go_wp2
          rw [← HQ.out]
          go_wp2
          go_ret2
          have hO := HO.out
          have hM := HM.out
          rw [HVI.out] at hO hM
          rw [HVI.out]
          exact ⟨_, go, rfl, hM.ent, hO, hgo, hM.bel⟩
end Go.Proofs.YtdbgcbkmcbgdiaaGreat.mem

namespace Go.Proofs.YtdbgcbkmcbgdiaaGreat.mem
open Go.RowKit
set_option linter.unusedVariables false

end Go.Proofs.YtdbgcbkmcbgdiaaGreat.mem

namespace Go.Proofs.YtdbgcbkmcbgdiaaGreat.mem
open Go.RowKit
set_option linter.unusedVariables false

/-- a visit behind the first one: where it came from -/
theorem Vok.from {n : Nat} {N : Nat → Nod} {P : Nat → Pip} {m : Nat} {x : Int} {fs : List Vs} (hN : netB n N m P = true) (h : Vok n P m x fs) {k : Nat} {v : Vs} (hk : 0 < k) (hv : fs[k]? = some v) :
    ∃ (a Y Z : Nat), a < m ∧ pipB n (P a) = true ∧ v.nd = (Z : Int) ∧ Z < n ∧ Y < n ∧ Y ≠ Z ∧ vval (·.en) fs (Z : Int) = (a : Int) ∧ (P a).f + (P a).t - (Z : Int) = (Y : Int) ∧ vval (·.ds) (fs.take k) (Y : Int) = v.ds - 1 ∧ 1 ≤ v.ds ∧ v.ds ≤ k := by
  obtain ⟨j, u, a, hj, hu, ha, hen, he, hnd, hds⟩ := h.par k v hk hv
  have hp := net_pip hN ha
  have hoo := oth_oth hp he
  obtain ⟨hz0, hz1⟩ := h.rng v (List.mem_of_getElem? hv)
  obtain ⟨Z, hZ⟩ := Int.eq_ofNat_of_zero_le hz0
  obtain ⟨hy0, hy1⟩ := h.rng u (List.mem_of_getElem? hu)
  obtain ⟨Y, hY⟩ := Int.eq_ofNat_of_zero_le hy0
  have d0 := h.ds0 j u hu
  have d1 := h.dsle k v hv
  have hval : vval (·.en) fs v.nd = (a : Int) := by rw [h.val (·.en) hv]; exact hen
  have hoth : (P a).f + (P a).t - v.nd = u.nd := by
    rw [hnd, sum_other hp hoo.2.1]
    exact hoo.1
  have hne : u.nd ≠ v.nd := by rw [hnd]; exact fun e => hoo.2.2 e.symm
  have hut : (fs.take k)[j]? = some u := by rw [List.getElem?_take_of_lt hj]; exact hu
  have okt : vval (·.ds) (fs.take k) u.nd = u.ds := by
    unfold vval
    have hjl := get_lt hut
    have : (fs.take k).find? (fun w => w.nd == u.nd) = some u := by
      rw [List.find?_eq_some_iff_getElem]
      have hg : (fs.take k)[j] = u := by
        rw [List.getElem?_eq_getElem hjl] at hut
        injection hut
      refine ⟨by simp, j, hjl, hg, fun i hi => ?_⟩
      have hil : i < fs.length := by simp at hjl; omega
      have hjl2 : j < fs.length := by simp at hjl; omega
      have := List.pairwise_iff_getElem.1 h.dis i j hil hjl2 hi
      have hg2 : fs[j] = u := by rw [List.getElem_take] at hg; exact hg
      rw [hg2] at this
      simpa using this
    rw [this]
  refine ⟨a, Y, Z, ha, hp, hZ, by omega, by omega, by omega, by rw [← hZ]; exact hval, by rw [← hZ, ← hY]; exact hoth, by rw [← hY, okt]; omega, by omega, d1⟩

end Go.Proofs.YtdbgcbkmcbgdiaaGreat.mem
