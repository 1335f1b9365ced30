/-
  Chapter 12: the text of a proof in the program. Conditions: the arguments lie in the memory as lists; the library's table of powers of ten is as its text lays it.
-/
import Derived.Test.YtdbgcbkmcbgdiaaDoorRows
import Derived.Test.YtdbgcbkmcbgdiaaDoorPtx
import Derived.Test.YtdbgcbkmcbgdiaaDoorShelfF
import Derived.Test.YtdbgcbkmcbgdiaaDoorBdl
import Derived.Shelf.Strings.BuilderK
import Derived.WalkKit
import Derived.ProofKit
import Derived.Lib.Hide
import Derived.Lib.Builder
import Derived.Laws.Concat
import Derived.Deep.RegionHeld3
import Derived.OwnWalk
namespace Go.Proofs.YtdbgcbkmcbgdiaaDoor.text
open Go.RowKit Go.Proofs.YtdbgcbkmcbgdiaaDoor.mem
set_option linter.unusedVariables false
set_option maxRecDepth 100000

theorem isBF_next {T e : TypeId} {B b : Nat} {bs : List Value} {w w' : World} (h : Lib.IsBuilderF T e B b bs w) (g : Below w.heap.size w w') : Lib.IsBuilderF T e B b bs w' := by
  have key : ∀ p, Lib.BuilderAtF T e B b p bs w → Lib.BuilderAtF T e B b p bs w' := by
    rintro p ⟨hB, v, hb, hown, hne⟩
    refine ⟨hB, v, by rw [g.block b (Array.getElem?_eq_some_iff.1 hb).1]; exact hb, ⟨hown.1, ?_⟩, hne⟩
    rcases hown.2 with h0 | ⟨q, cap, cur, fz, h1, h2, h3, h4⟩
    · exact .inl h0
    · exact .inr ⟨q, cap, cur, fz, h1, h2, by rw [g.block q (Array.getElem?_eq_some_iff.1 h3).1]; exact h3, h4⟩
  exact h.elim (fun x => .inl (key _ x)) (fun x => .inr (key _ x))
theorem isBF_lt {T e : TypeId} {B b : Nat} {bs : List Value} {w : World} (h : Lib.IsBuilderF T e B b bs w) : b < w.heap.size := by
  have key : ∀ p, Lib.BuilderAtF T e B b p bs w → b < w.heap.size := by
    rintro p ⟨hB, v, hb, _⟩
    exact (Array.getElem?_eq_some_iff.1 hb).1
  exact h.elim (key _) (key _)
/-- a builder in a block of its own, that holds these bytes -/
def Bd (b : Nat) (a : List UInt8) (w : World) : Prop := Lib.IsBuilderF 58 5 b b (Lib.byteCells a) w
theorem Bd.next {b : Nat} {a : List UInt8} {w w' : World} (h : Bd b a w) (g : Below w.heap.size w w') : Bd b a w' := isBF_next h g
theorem Bd.lt {b : Nat} {a : List UInt8} {w : World} (h : Bd b a w) : b < w.heap.size := isBF_lt h
theorem Bd.fresh (w : World) : Bd w.heap.size [] (w.alloc (.cells #[.pointer none, .slice none 0 0] 58)) := Lib.IsBuilderF.of (Lib.fresh_isBuilder 58 5 w)
theorem write_any (w : World) (b : Nat) (a l : List UInt8) (h : Bd b a w) (ha : a.length ≤ 1000000) (hl : l.length ≤ 1000000) :
    Calls Tryd.prog 21 #[.pointer (some ⟨b, 0, none⟩), .string ⟨l.toArray⟩] w fun e w' => (∃ v, e = .returned (.tuple #[v, .nilIface])) ∧ Bd b (a ++ l) w' ∧ Below b w w' ∧ Lib.OthersKept 5 (some b) w w' := by
  refine (Any.Builder_WriteString_k Tryd.layW Tryd.layW_Extra b b (Lib.byteCells a) ⟨l.toArray⟩ w h ?_ (by have := h.lt; omega)).mono ?_
  · rw [Lib.byteCells_length]
    have : (ByteArray.mk l.toArray).size = l.length := by simp [ByteArray.size]
    omega
  · rintro e w' ⟨rfl, h1, h2, h3⟩
    refine ⟨⟨_, rfl⟩, .inr ?_, h2, h3⟩
    rw [Lib.byteCells_append]
    exact h1
theorem string_any (b : Nat) (l : List UInt8) (w : World) (h : Bd b l w) :
    Calls Tryd.prog 23 #[.pointer (some ⟨b, 0, none⟩)] w fun e w' => e = .returned (.string ⟨l.toArray⟩) ∧ Below b w w' :=
  (Any.Builder_String_any_k Tryd.lays169 Tryd.Builder_Extra_169 b b l w h (by have := h.lt; omega)).mono fun e w' ⟨h1, _, h2, _⟩ => ⟨h1, h2⟩
/-- a variable of another type stands as it stood -/
theorem kept_cell {t : TypeId} {b q : Nat} {cs : Array Value} {w w' : World} (ht : t ≠ 5) (hq : q ≠ b) (h : w.heap[q]? = some (.cells cs t (0, 0))) (g : Lib.OthersKept 5 (some b) w w') : w'.heap[q]? = some (.cells cs t (0, 0)) :=
  g q _ h (by simpa using hq) (fun c fz e => by injection e with _ e2 _; exact ht e2)
theorem cell_of {t : TypeId} {q : Nat} {cs : Array Value} {w : World} (h : w.heap[q]? = some (.cells cs t (0, 0))) (i : Nat) (v : Value) (hi : cs[i]? = some v) : w.cell? ⟨q, i, none⟩ = some v := by
  simp only [World.cell?, h]
  simpa using hi

set_option maxHeartbeats 8000000 in
theorem proofText_any (w : World) (v : Value) (n : Nat) (N : Nat → Nod) (m : Nat) (P : Nat → Pip) (lo hi : Nat) (h : NetAt w v n N m P lo hi) (hhi : hi ≤ w.heap.size) (hN : ∀ i, i < n → (N i).s.size ≤ 9223372036854775807) (vp : Value) (F : Nat) (f : Nat → Int) (L : Nat) (l : Nat → Int) (lp hp : Nat) (hpr : PrAt w vp F f L l lp hp) (hhp : hp ≤ w.heap.size) (hF9 : F ≤ 9223372036854775807) (hL9 : L ≤ 9223372036854775807) (hpow : Pow w) :
    Calls Tryd.prog 9 #[v, vp] w (StrPost w (ptT n N m P F f L l)) := by
  have HP := Lib.hid hpow
  clear hpow
  obtain ⟨v0, v1, rfl, g0, g1⟩ := h.ex
  obtain ⟨p0, c0, rfl⟩ := g0.shape
  obtain ⟨p1, c1, rfl⟩ := g1.shape
  obtain ⟨q0, d0, q1, d1, rfl⟩ := hpr.shape
  obtain ⟨hf, hl⟩ := hpr.two
  have HV := Lib.hid h
  have HN := Lib.hid hN
  have HPR := Lib.hid hpr
  have HC0 : Hid (n = 0 ∨ ∃ b o, p0 = some ⟨b, o, none⟩ ∧ lo ≤ b ∧ b < hi ∧ At w b o n 3 (nodC N)) := by
    obtain ⟨p, cap, hv, _, _, hc⟩ := g0.ex
    injection hv with e1 _ e2
    subst e1
    exact Lib.hid hc
  have HC1 : Hid (m = 0 ∨ ∃ b o, p1 = some ⟨b, o, none⟩ ∧ lo ≤ b ∧ b < hi ∧ At w b o m 5 (pipC P)) := by
    obtain ⟨p, cap, hv, _, _, hc⟩ := g1.ex
    injection hv with e1 _ e2
    subst e1
    exact Lib.hid hc
  have HCF : Hid (F = 0 ∨ ∃ b o, q0 = some ⟨b, o, none⟩ ∧ lp ≤ b ∧ b < hp ∧ ∀ k, k < F → w.cell? ⟨b, o + k, none⟩ = some (.int .i64 (f k))) := by
    obtain ⟨p, cap, hv, hc⟩ := hf.ex
    injection hv with e1 _ e2
    subst e1
    exact Lib.hid hc
  have HCL : Hid (L = 0 ∨ ∃ b o, q1 = some ⟨b, o, none⟩ ∧ lp ≤ b ∧ b < hp ∧ ∀ k, k < L → w.cell? ⟨b, o + k, none⟩ = some (.int .i64 (l k))) := by
    obtain ⟨p, cap, hv, hc⟩ := hl.ex
    injection hv with e1 _ e2
    subst e1
    exact Lib.hid hc
  have A0 := (boxed w (.slice p0 n c0) (.slice p1 m c1) 35).keep (Below.heap_alloc _ (.cells #[.slice q0 F d0, .slice q1 L d1] 37) _ (by rw [szal]; omega))
  have C0 := boxed (w.alloc (.cells #[.slice p0 n c0, .slice p1 m c1] 35)) (.slice q0 F d0) (.slice q1 L d1) 37
  simp only [szal] at C0
  have B0 := (below_new w (.cells #[.slice p0 n c0, .slice p1 m c1] 35)).trans ((below_new _ (.cells #[.slice q0 F d0, .slice q1 L d1] 37)).mono (by rw [szal]; omega))
  have hs0 : ((w.alloc (.cells #[.slice p0 n c0, .slice p1 m c1] 35)).alloc (.cells #[.slice q0 F d0, .slice q1 L d1] 37)).heap.size = w.heap.size + 1 + 1 := by simp
  clear h hN hpr hf hl g0 g1
  go_enter Tryd.func9, Tryd.ntmps9
  have e0' := A0.b0
  have e1' := A0.b1
  have k0' := C0.b0
  have k1' := C0.b1
  go_wp2_with fail
  refine (prCheck_any _ _ n N m P lo hi (HV.out.below B0 hhi) (by omega) HN.out _ F f L l lp hp (HPR.out.below B0 hhp) (by omega) hF9 hL9).mono ?_
  rintro e w2 ⟨rfl, b2⟩
  have A2 := A0.below b2 (by omega)
  have C2 := C0.below b2 (by omega)
  have B2 := B0.trans (b2.mono (by omega))
  have hs2 := b2.size
  have u2 : w.heap.size + 1 + 1 ≤ w2.heap.size := by omega
  clear A0 C0 B0 b2 hs2 e0' e1' k0' k1' hs0
  by_cases hc : prC n N m P F f L l = 0
  rotate_left 1
  · have hb1 : (prC n N m P F f L l != 0) = true := by simpa using hc
    have HT := Lib.hid (show ptT n N m P F f L l = [] by unfold ptT; rw [if_neg hc])
    clear hc
    go_wp2_with fail
    go_ret
    exact ⟨ret_str (by rw [HT.out]), B2⟩
  have HT := Lib.hid (show ptT n N m P F f L l = ndP N l n ++ ppP N P f m by unfold ptT; rw [if_pos hc])
  obtain ⟨hB, rfl, rfl, hf, hl⟩ := prC_ok hc
  obtain ⟨h1, hn24, hm40⟩ := net_all hB
  have HB0 := Lib.hid hB
  have HS := Lib.hid h1
  have HFR := Lib.hid hf
  have HLR := Lib.hid hl
  rw [hc]
  clear hc hB hf hl h1
  have HA := Lib.hid A2
  have HC := Lib.hid C2
  have HB2 := Lib.hid B2
  clear A2 C2 B2
  have D3 := below_new w2 (.cells #[.pointer none, .slice none 0 0] 58)
  have I3 := Bd.fresh w2
  have a0 := HA.out.b0
  have a1 := HA.out.b1
  have hl2 : w.heap.size < w2.heap.size := by omega
  go_wp2_with fail
  clear a0 a1 hl2
  obtain ⟨w3, hw3⟩ : ∃ w3, w2.alloc (.cells #[.pointer none, .slice none 0 0] 58) = w3 := ⟨_, rfl⟩
  rw [hw3] at D3 I3 ⊢
  clear hw3
  obtain ⟨bb, hbb⟩ : ∃ bb, bb = w2.heap.size := ⟨_, rfl⟩
  rw [← hbb] at D3 I3 ⊢
  replace hbb := Nat.le_antisymm_iff.1 hbb
  go_loopw [17] (fun i wr => ∃ k : Nat, i = .int .i64 k ∧ k ≤ L ∧ Bd bb (ndP N l k) wr ∧ Below bb w2 wr) (fun i _ => L - (intOf i).toNat)
  case atStart => exact ⟨0, rfl, Nat.zero_le _, I3, D3⟩
  case round =>
    obtain ⟨k, rfl, hk, hI, hB⟩ := hrel
    have HI := Lib.hid hI
    have hbr := hI.lt
    have a0 := (HA.out.below hB (by omega)).b0
    have a1 := (HA.out.below hB (by omega)).b1
    have k0 := (HC.out.below hB (by omega)).b0
    have k1 := (HC.out.below hB (by omega)).b1
    have HBB := Lib.hid hB
    have hsr := hB.size
    have BW := Lib.hid (HB2.out.trans (hB.mono (by omega)))
    clear hB hI I3 D3
    by_cases hlt : k < L
    · have hkI : (k : Int) < L := by omega
      rcases HC0.out with h0 | ⟨b, o, rfl, hlo, hb, g3⟩
      · omega
      rcases HCL.out with h0 | ⟨bl, ol, rfl, hlol, hbl, g4⟩
      · omega
      have y0 : wr.cell? ⟨b, o + k * 3, none⟩ = some (.string (N k).s) := (BW.out.cell (p := ⟨b, o + k * 3, none⟩) (by show b < _; omega)).trans (g3.cell k 0 hlt (by omega))
      have y1 : wr.cell? ⟨b, o + k * 3 + 1, none⟩ = some (.int .i64 (N k).lo) := (BW.out.cell (p := ⟨b, o + k * 3 + 1, none⟩) (by show b < _; omega)).trans (g3.cell k 1 hlt (by omega))
      have y2 : wr.cell? ⟨b, o + k * 3 + 2, none⟩ = some (.int .i64 (N k).hi) := (BW.out.cell (p := ⟨b, o + k * 3 + 2, none⟩) (by show b < _; omega)).trans (g3.cell k 2 hlt (by omega))
      have x0 : wr.cell? ⟨bl, ol + k, none⟩ = some (.int .i64 (l k)) := (BW.out.cell (p := ⟨bl, ol + k, none⟩) (by show bl < _; omega)).trans (g4 k hlt)
      have hlen := ndP_len (N := N) (l := l) (k := k) (fun i hi => HS.out i (by omega)) (fun i hi => HLR.out i (by omega))
      have hsz := HS.out k hlt
      obtain ⟨hx0, hx1⟩ := HLR.out k hlt
      have hll := lnP_len (N k).s.data.toList hx0 hx1
      rw [dl] at hll
      have b4 := below_new wr (.cells #[.string (N k).s, .int .i64 (N k).lo, .int .i64 (N k).hi] 47)
      have o4 := heap_alloc_new wr (.cells #[.string (N k).s, .int .i64 (N k).lo, .int .i64 (N k).hi] 47)
      have hs4 : (wr.alloc (.cells #[.string (N k).s, .int .i64 (N k).lo, .int .i64 (N k).hi] 47)).heap.size = wr.heap.size + 1 := by simp
      clear g3 g4
      go_upto_region 7 with (fail)
      obtain ⟨w4, hw4⟩ : ∃ w4, wr.alloc (.cells #[.string (N k).s, .int .i64 (N k).lo, .int .i64 (N k).hi] 47) = w4 := ⟨_, rfl⟩
      rw [hw4] at b4 o4 hs4 ⊢
      clear hw4 y0 y1 y2 a0 a1 k0
      have HI4 := Lib.hid (HI.out.next b4)
      have BW4 := Lib.hid (BW.out.trans (b4.mono (by omega)))
      have HB4 := Lib.hid (HBB.out.trans (b4.mono (by omega)))
      have t1 := (b4.cell (p := ⟨w.heap.size + 1, 1, none⟩) (by show w.heap.size + 1 < _; omega)).trans k1
      have t2 := (b4.cell (p := ⟨bl, ol + k, none⟩) (by show bl < _; omega)).trans x0
      have t0 := cell_of o4 0 _ rfl
      clear b4 k1 x0
      have n1 : w.heap.size + 1 < bb := by omega
      have n2 : bl < bb := by omega
      have hs4' := Nat.le_antisymm_iff.1 hs4
      clear hs4
      have KS : ∀ W : World, Below w4.heap.size w4 W → (W.cell? ⟨wr.heap.size, 0, none⟩ = some (.string (N k).s) ∧ W.cell? ⟨w.heap.size + 1, 1, none⟩ = some (.slice (some ⟨bl, ol, none⟩) L d1) ∧ W.cell? ⟨bl, ol + k, none⟩ = some (.int .i64 (l k))) := fun W hW => ⟨(hW.cell (p := ⟨wr.heap.size, 0, none⟩) (by show wr.heap.size < _; omega)).trans t0, (hW.cell (p := ⟨w.heap.size + 1, 1, none⟩) (by show w.heap.size + 1 < _; omega)).trans t1, (hW.cell (p := ⟨bl, ol + k, none⟩) (by show bl < _; omega)).trans t2⟩
      have K0 : Below w4.heap.size w4 w4.drew := ⟨rfl, rfl, rfl, Nat.le_refl _, fun _ _ => rfl⟩
      go_region_held3 (fun W : World => W.cell? ⟨wr.heap.size, 0, none⟩ = some (.string (N k).s) ∧ W.cell? ⟨w.heap.size + 1, 1, none⟩ = some (.slice (some ⟨bl, ol, none⟩) L d1) ∧ W.cell? ⟨bl, ol + k, none⟩ = some (.int .i64 (l k))) (first | exact KY | exact KS _ K0 | exact KS _ KX)
        (first
          | (go_at_call 22; refine (proofLine_any (N k).s (l k) _ (by omega) hx0 hx1 (pow_below HP.out (BW4.out.trans (K0.mono (by omega))))).mono ?_; rintro e wx ⟨rfl, bx⟩; have KX : Below w4.heap.size w4 wx := K0.trans (bx.mono (Nat.le_refl _)))
          | (go_at_call 21; refine (write_any wx bb (ndP N l k) _ (HI4.out.next KX) (by omega) (by omega)).mono ?_; rintro e wy ⟨⟨vv, rfl⟩, IY, DY, OY⟩; have KY : wy.cell? ⟨wr.heap.size, 0, none⟩ = some (.string (N k).s) ∧ wy.cell? ⟨w.heap.size + 1, 1, none⟩ = some (.slice (some ⟨bl, ol, none⟩) L d1) ∧ wy.cell? ⟨bl, ol + k, none⟩ = some (.int .i64 (l k)) := ⟨cell_of (kept_cell (by decide) (by omega) ((KX.block wr.heap.size (by omega)).trans o4) OY) 0 _ rfl, (DY.cell (p := ⟨w.heap.size + 1, 1, none⟩) n1).trans (KS _ KX).2.1, (DY.cell (p := ⟨bl, ol + k, none⟩) n2).trans (KS _ KX).2.2⟩))
      have HIY := Lib.hid IY
      have HDY := Lib.hid ((HB4.out.trans (KX.mono (by omega))).trans DY)
      clear IY DY OY KY KX
      go_wp2_with fail
      go_roundw
      case rel => exact ⟨k + 1, by go_num, hlt, HIY.out, HDY.out⟩
      case measure => simp [intOf]; omega
    · obtain rfl : k = L := by omega
      obtain ⟨w5, hw5⟩ : ∃ w', w' = wr := ⟨_, rfl⟩
      subst hw5
      have hlen := ndP_len (N := N) (l := l) (k := k) (fun i hi => HS.out i (by omega)) (fun i hi => HLR.out i (by omega))
      clear HCL
      go_wp2_with fail
      clear a0 a1 k0 k1
      go_loopw [35] (fun i wr => ∃ j : Nat, i = .int .i64 j ∧ j ≤ F ∧ Bd bb (ndP N l k ++ ppP N P f j) wr ∧ Below bb w2 wr) (fun i _ => F - (intOf i).toNat)
      case atStart => exact ⟨0, rfl, Nat.zero_le _, by simpa [ppP] using HI.out, HBB.out⟩
      case round =>
        obtain ⟨j, rfl, hj, hI, hB⟩ := hrel
        obtain ⟨w6, hw6⟩ : ∃ w', w' = wr := ⟨_, rfl⟩
        subst hw6
        have HI6 := Lib.hid hI
        have hb6 := hI.lt
        have HB6 := Lib.hid hB
        have hsr6 := hB.size
        have B6 := Lib.hid (HB2.out.trans (hB.mono (by omega)))
        have a0 := (HA.out.below hB (by omega)).b0
        have a1 := (HA.out.below hB (by omega)).b1
        have k0 := (HC.out.below hB (by omega)).b0
        have k1 := (HC.out.below hB (by omega)).b1
        have hlen2 := ppP_len (f := f) HB0.out HFR.out hj
        clear hB hI
        by_cases hlt2 : j < F
        · have hjI : (j : Int) < F := by omega
          obtain ⟨a, t, haf, hat, han, htn⟩ := pip_ends HB0.out hlt2
          rcases HC0.out with h0 | ⟨bn, on, rfl, hlon, hbn, g3⟩
          · omega
          rcases HC1.out with h0 | ⟨b, o, rfl, hlo, hb, g5⟩
          · omega
          rcases HCF.out with h0 | ⟨bl, ol, rfl, hlol, hbl, g4⟩
          · omega
          have y0 : w6.cell? ⟨b, o + j * 5, none⟩ = some (.int .i64 (P j).f) := (B6.out.cell (p := ⟨b, o + j * 5, none⟩) (by show b < _; omega)).trans (g5.cell j 0 hlt2 (by omega))
          have y1 : w6.cell? ⟨b, o + j * 5 + 1, none⟩ = some (.int .i64 (P j).t) := (B6.out.cell (p := ⟨b, o + j * 5 + 1, none⟩) (by show b < _; omega)).trans (g5.cell j 1 hlt2 (by omega))
          have y2 : w6.cell? ⟨b, o + j * 5 + 2, none⟩ = some (.int .i64 (P j).k) := (B6.out.cell (p := ⟨b, o + j * 5 + 2, none⟩) (by show b < _; omega)).trans (g5.cell j 2 hlt2 (by omega))
          have y3 : w6.cell? ⟨b, o + j * 5 + 3, none⟩ = some (.int .i64 (P j).v) := (B6.out.cell (p := ⟨b, o + j * 5 + 3, none⟩) (by show b < _; omega)).trans (g5.cell j 3 hlt2 (by omega))
          have y4 : w6.cell? ⟨b, o + j * 5 + 4, none⟩ = some (.int .i64 (P j).l) := (B6.out.cell (p := ⟨b, o + j * 5 + 4, none⟩) (by show b < _; omega)).trans (g5.cell j 4 hlt2 (by omega))
          have z0 : w6.cell? ⟨bn, on + a * 3, none⟩ = some (.string (N a).s) := (B6.out.cell (p := ⟨bn, on + a * 3, none⟩) (by show bn < _; omega)).trans (g3.cell a 0 han (by omega))
          have z1 : w6.cell? ⟨bn, on + t * 3, none⟩ = some (.string (N t).s) := (B6.out.cell (p := ⟨bn, on + t * 3, none⟩) (by show bn < _; omega)).trans (g3.cell t 0 htn (by omega))
          have x0 : w6.cell? ⟨bl, ol + j, none⟩ = some (.int .i64 (f j)) := (B6.out.cell (p := ⟨bl, ol + j, none⟩) (by show bl < _; omega)).trans (g4 j hlt2)
          have hsa := HS.out a han
          have hst := HS.out t htn
          obtain ⟨hx0, hx1⟩ := HFR.out j hlt2
          have hx0' : -1000000000000000000 ≤ f j := by omega
          have hx1' : f j ≤ 1000000000000000000 := by omega
          have HQ := Lib.hid (show ppN N (P j) = (N a).s.data.toList ++ (62 :: (N t).s.data.toList) by unfold ppN; rw [haf, hat, Int.toNat_natCast, Int.toNat_natCast])
          obtain ⟨T, hT⟩ : ∃ T : ByteArray, T = (N a).s ++ ByteArray.mk #[62] ++ (N t).s := ⟨_, rfl⟩
          have HTL := Lib.hid (show T.data.toList = ppN N (P j) by rw [HQ.out, hT]; simp [ByteArray.data_append])
          have hTs : T.size ≤ 17 := by rw [← dl, HTL.out]; exact ppN_len HS.out haf hat han htn
          have hll := lnP_len T.data.toList hx0' hx1'
          rw [dl] at hll
          have HTT := Lib.hid hT
          clear hT
          rw [haf] at y0
          rw [hat] at y1
          have r1' : ¬ 9223372036854775807 < (N a).s.size + 1 := by omega
          have r2' : ¬ 9223372036854775807 < (N a).s.size + 1 + (N t).s.size := by omega
          have b7 := below_new w6 (.cells #[.int .i64 (a : Int), .int .i64 (t : Int), .int .i64 (P j).k, .int .i64 (P j).v, .int .i64 (P j).l] 50)
          have o7 := heap_alloc_new w6 (.cells #[.int .i64 (a : Int), .int .i64 (t : Int), .int .i64 (P j).k, .int .i64 (P j).v, .int .i64 (P j).l] 50)
          have hs7 : (w6.alloc (.cells #[.int .i64 (a : Int), .int .i64 (t : Int), .int .i64 (P j).k, .int .i64 (P j).v, .int .i64 (P j).l] 50)).heap.size = w6.heap.size + 1 := by simp
          clear g3 g4 g5
          go_upto_region 12 with (fail)
          obtain ⟨w7, hw7⟩ : ∃ w7, w6.alloc (.cells #[.int .i64 (a : Int), .int .i64 (t : Int), .int .i64 (P j).k, .int .i64 (P j).v, .int .i64 (P j).l] 50) = w7 := ⟨_, rfl⟩
          rw [hw7] at b7 o7 hs7 ⊢
          clear hw7
          have v0 := cell_of o7 0 _ rfl
          have v1 := cell_of o7 1 _ rfl
          have HI7 := Lib.hid (HI6.out.next b7)
          have HB7 := Lib.hid (HB6.out.trans (b7.mono (by omega)))
          have BW7 := Lib.hid (B6.out.trans (b7.mono (by omega)))
          have hs7' := Nat.le_antisymm_iff.1 hs7
          have m1 : bn < bb := by omega
          have m3 : bl < bb := by omega
          have m4 : w.heap.size < bb := by omega
          have m5 : w.heap.size + 1 < bb := by omega
          have T0 := (b7.cell (p := ⟨w.heap.size, 0, none⟩) (by show w.heap.size < _; omega)).trans a0
          have T1 := (b7.cell (p := ⟨w.heap.size + 1, 0, none⟩) (by show w.heap.size + 1 < _; omega)).trans k0
          have T2 := (b7.cell (p := ⟨bn, on + a * 3, none⟩) (by show bn < _; omega)).trans z0
          have T3 := (b7.cell (p := ⟨bn, on + t * 3, none⟩) (by show bn < _; omega)).trans z1
          have T4 := (b7.cell (p := ⟨bl, ol + j, none⟩) (by show bl < _; omega)).trans x0
          clear b7 hs7 y0 y1 y2 y3 y4 z0 z1 x0 a0 a1 k0 k1 haf hat
          have hA3 : (a : Int) < k := by omega
          have hT3 : (t : Int) < k := by omega
          have KS : ∀ W : World, Below w7.heap.size w7 W → (W.cell? ⟨w.heap.size, 0, none⟩ = some (.slice (some ⟨bn, on, none⟩) k c0) ∧ W.cell? ⟨w.heap.size + 1, 0, none⟩ = some (.slice (some ⟨bl, ol, none⟩) F d0) ∧ W.cell? ⟨bn, on + a * 3, none⟩ = some (.string (N a).s) ∧ W.cell? ⟨bn, on + t * 3, none⟩ = some (.string (N t).s) ∧ W.cell? ⟨bl, ol + j, none⟩ = some (.int .i64 (f j)) ∧ W.cell? ⟨w6.heap.size, 0, none⟩ = some (.int .i64 (a : Int)) ∧ W.cell? ⟨w6.heap.size, 1, none⟩ = some (.int .i64 (t : Int))) := fun W hW => ⟨(hW.cell (p := ⟨w.heap.size, 0, none⟩) (by show w.heap.size < _; omega)).trans T0, (hW.cell (p := ⟨w.heap.size + 1, 0, none⟩) (by show w.heap.size + 1 < _; omega)).trans T1, (hW.cell (p := ⟨bn, on + a * 3, none⟩) (by show bn < _; omega)).trans T2, (hW.cell (p := ⟨bn, on + t * 3, none⟩) (by show bn < _; omega)).trans T3, (hW.cell (p := ⟨bl, ol + j, none⟩) (by show bl < _; omega)).trans T4, (hW.cell (p := ⟨w6.heap.size, 0, none⟩) (by show w6.heap.size < _; omega)).trans v0, (hW.cell (p := ⟨w6.heap.size, 1, none⟩) (by show w6.heap.size < _; omega)).trans v1⟩
          have K0 : Below w7.heap.size w7 w7.drew := ⟨rfl, rfl, rfl, Nat.le_refl _, fun _ _ => rfl⟩
          go_region_held3 (fun W : World => W.cell? ⟨w.heap.size, 0, none⟩ = some (.slice (some ⟨bn, on, none⟩) k c0) ∧ W.cell? ⟨w.heap.size + 1, 0, none⟩ = some (.slice (some ⟨bl, ol, none⟩) F d0) ∧ W.cell? ⟨bn, on + a * 3, none⟩ = some (.string (N a).s) ∧ W.cell? ⟨bn, on + t * 3, none⟩ = some (.string (N t).s) ∧ W.cell? ⟨bl, ol + j, none⟩ = some (.int .i64 (f j)) ∧ W.cell? ⟨w6.heap.size, 0, none⟩ = some (.int .i64 (a : Int)) ∧ W.cell? ⟨w6.heap.size, 1, none⟩ = some (.int .i64 (t : Int))) (first | exact KY | exact KS _ K0 | exact KS _ KX)
            (first
              | (go_at_call 22; rw [← HTT.out]; refine (proofLine_any T (f j) _ (by omega) hx0' hx1' (pow_below HP.out (BW7.out.trans (K0.mono (by omega))))).mono ?_; rintro e wx ⟨rfl, bx⟩; have KX : Below w7.heap.size w7 wx := K0.trans (bx.mono (Nat.le_refl _)))
              | (go_at_call 21; refine (write_any wx bb (ndP N l k ++ ppP N P f j) _ (HI7.out.next KX) (by rw [List.length_append]; omega) (by omega)).mono ?_; rintro e wy ⟨⟨vv, rfl⟩, IY, DY, OY⟩; have o8 := kept_cell (by decide) (by omega) ((KX.block w6.heap.size (by omega)).trans o7) OY; have KY : wy.cell? ⟨w.heap.size, 0, none⟩ = some (.slice (some ⟨bn, on, none⟩) k c0) ∧ wy.cell? ⟨w.heap.size + 1, 0, none⟩ = some (.slice (some ⟨bl, ol, none⟩) F d0) ∧ wy.cell? ⟨bn, on + a * 3, none⟩ = some (.string (N a).s) ∧ wy.cell? ⟨bn, on + t * 3, none⟩ = some (.string (N t).s) ∧ wy.cell? ⟨bl, ol + j, none⟩ = some (.int .i64 (f j)) ∧ wy.cell? ⟨w6.heap.size, 0, none⟩ = some (.int .i64 (a : Int)) ∧ wy.cell? ⟨w6.heap.size, 1, none⟩ = some (.int .i64 (t : Int)) := ⟨(DY.cell (p := ⟨w.heap.size, 0, none⟩) m4).trans (KS _ KX).1, (DY.cell (p := ⟨w.heap.size + 1, 0, none⟩) m5).trans (KS _ KX).2.1, (DY.cell (p := ⟨bn, on + a * 3, none⟩) m1).trans (KS _ KX).2.2.1, (DY.cell (p := ⟨bn, on + t * 3, none⟩) m1).trans (KS _ KX).2.2.2.1, (DY.cell (p := ⟨bl, ol + j, none⟩) m3).trans (KS _ KX).2.2.2.2.1, cell_of o8 0 _ rfl, cell_of o8 1 _ rfl⟩))
          rw [HTL.out] at IY
          have HIY := Lib.hid IY
          have HDY := Lib.hid ((HB7.out.trans (KX.mono (by omega))).trans DY)
          clear IY DY OY KY KX o8
          go_wp2_with fail
          go_roundw
          case rel => exact ⟨j + 1, by go_num, hlt2, by rw [List.append_assoc] at HIY; exact HIY.out, HDY.out⟩
          case measure => simp [intOf]; omega
        · obtain rfl : j = F := by omega
          go_wp2_with fail
          refine (string_any bb _ _ HI6.out).mono ?_
          rintro e w8 ⟨rfl, b8⟩
          have D8 := HB6.out.trans b8
          go_wp2_with fail
          go_ret
          exact ⟨ret_str (by rw [HT.out]), HB2.out.trans (D8.mono (by omega))⟩
theorem agreeProofText (n : Nat) (N : Nat → Nod) (m : Nat) (P : Nat → Pip) (F : Nat) (f : Nat → Int) (L : Nat) (l : Nat → Int) (hN : ∀ i, i < n → (N i).s.size ≤ 9223372036854775807) (_hn : n ≤ 2000000) (_hm : m ≤ 2000000) (hF : F ≤ 2000000) (hL : L ≤ 2000000) :
    ∃ rt, (∀ w v vp, NetAt w v n N m P 0 w.heap.size → PrAt w vp F f L l 0 w.heap.size → Pow w → Calls Tryd.prog 9 #[v, vp] w (StrPost w rt)) ∧ (∀ w v vp, NetAt w v n N m P 0 w.heap.size → PrAt w vp F f L l 0 w.heap.size → Calls Tryd.prog 6 #[v, vp] w (StrPost w rt)) :=
  ⟨_, fun w v vp h hp hpw => proofText_any w v n N m P 0 _ h (Nat.le_refl _) hN vp F f L l 0 _ hp (Nat.le_refl _) (by omega) (by omega) hpw, fun w v vp h hp => sProofText_any w v n N m P 0 _ h (Nat.le_refl _) hN vp F f L l 0 _ hp (Nat.le_refl _) (by omega) (by omega)⟩
end Go.Proofs.YtdbgcbkmcbgdiaaDoor.text
