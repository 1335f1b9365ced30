/-
  The text of a network in the program. Conditions: the names are of bounded length; the library's table of powers of ten is as its text lays it.
-/
import Derived.Test.YtemjeoelglkhkaaDoorRows
import Derived.Test.YtemjeoelglkhkaaDoorTxF
import Derived.WalkKit
import Derived.ProofKit
import Derived.Lib.Hide
import Derived.Lib.Builder
import Derived.Laws.Concat
import Derived.OwnWalk
namespace Go.Proofs.YtemjeoelglkhkaaDoor.text
open Go.RowKit Go.Proofs.YtemjeoelglkhkaaDoor.mem
set_option linter.unusedVariables false
set_option maxRecDepth 100000

theorem builder_write (B b : Nat) (bs : List Value) (s : ByteArray) (w : World) (h : Lib.IsBuilder 75 5 B b bs w) (hlen : bs.length + s.size ≤ 140737488355328) (hBw : B ≤ w.heap.size) :
    Calls Tryd.prog 44 #[.pointer (some ⟨b, 0, none⟩), .string s] w fun e w' => e = .returned (.tuple #[.int .i64 s.size, .nilIface]) ∧ (Lib.BuilderAt 75 5 B b (.pointer (some ⟨b, 0, none⟩)) (bs ++ Lib.strCells s) w' ∧ Below B w w') :=
  Any.Builder_WriteString { Tryd.lays156 with } Tryd.Builder_Extra_156 B b bs s w h hlen hBw
theorem builder_string (B b : Nat) (l : List UInt8) (w : World) (h : Lib.IsBuilder 75 5 B b (Lib.byteCells l) w) (hBw : B ≤ w.heap.size) :
    Calls Tryd.prog 45 #[.pointer (some ⟨b, 0, none⟩)] w fun e w' => e = .returned (.string ⟨l.toArray⟩) ∧ Below B w w' :=
  Any.Builder_String_any { Tryd.lays156 with } Tryd.Builder_Extra_156 B b l w h hBw
theorem isB_next {T e : TypeId} {B b : Nat} {bs : List Value} {w w' : World} (h : Lib.IsBuilder T e B b bs w) (g : Below w.heap.size w w') : Lib.IsBuilder T e B b bs w' := by
  have key : ∀ p, Lib.BuilderAt T e B b p bs w → Lib.BuilderAt T e B b p bs w' := by
    rintro p ⟨hB, v, hb, hown, hne⟩
    refine ⟨hB, v, by rw [g.block b (Array.getElem?_eq_some_iff.1 hb).1]; exact hb, ⟨hown.1, ?_⟩, hne⟩
    rcases hown.2 with h0 | ⟨q, cap, cur, h1, h2, h3, h4⟩
    · exact .inl h0
    · exact .inr ⟨q, cap, cur, h1, h2, by rw [g.block q (Array.getElem?_eq_some_iff.1 h3).1]; exact h3, h4⟩
  exact h.elim (fun x => .inl (key _ x)) (fun x => .inr (key _ x))
theorem isB_lt {T e : TypeId} {B b : Nat} {bs : List Value} {w : World} (h : Lib.IsBuilder T e B b bs w) : b < w.heap.size := by
  have key : ∀ p, Lib.BuilderAt T e B b p bs w → b < w.heap.size := by
    rintro p ⟨hB, v, hb, _⟩
    exact (Array.getElem?_eq_some_iff.1 hb).1
  exact h.elim (key _) (key _)
theorem bytes_next (a b : List UInt8) : Lib.byteCells a ++ Lib.strCells (ByteArray.mk b.toArray ++ ByteArray.mk #[10]) = Lib.byteCells (a ++ (b ++ [10])) := by
  rw [Lib.strCells_eq, Lib.byteCells_append]
  congr 1
theorem write_any (w : World) (b : Nat) (a l : List UInt8) (h : Lib.IsBuilder 75 5 b b (Lib.byteCells a) w) (ha : a.length ≤ 1000000) (hl : l.length ≤ 1000000) :
    Calls Tryd.prog 44 #[.pointer (some ⟨b, 0, none⟩), .string (ByteArray.mk l.toArray ++ ByteArray.mk #[10])] w fun e w' => (∃ v, e = .returned (.tuple #[v, .nilIface])) ∧ Lib.IsBuilder 75 5 b b (Lib.byteCells (a ++ (l ++ [10]))) w' ∧ Below b w w' := by
  refine (builder_write b b _ _ w h ?_ (by have := isB_lt h; omega)).mono ?_
  · rw [Lib.byteCells_length]
    have : (ByteArray.mk l.toArray ++ ByteArray.mk #[10]).size = l.length + 1 := by rw [ByteArray.size_append]; rfl
    omega
  · rintro e w' ⟨rfl, h1, h2⟩
    refine ⟨⟨_, rfl⟩, .inr ?_, h2⟩
    rw [← bytes_next]
    exact h1

set_option maxHeartbeats 8000000 in
theorem networkText_any (w : World) (v : Value) (n : Nat) (N : Nat → Nod) (m : Nat) (P : Nat → Pip) (lo hi : Nat) (h : NetAt w v n N m P lo hi) (hhi : hi ≤ w.heap.size) (hN : ∀ i, i < n → (N i).s.size ≤ 9223372036854775807) (hp : Pow w) :
    Calls Tryd.prog 19 #[v] w (StrPost w (netT n N m P)) := by
  have HP := Lib.hid hp
  clear hp
  obtain ⟨v0, v1, rfl, g0, g1⟩ := h.ex
  obtain ⟨p0, c0, rfl⟩ := g0.shape
  obtain ⟨p1, c1, rfl⟩ := g1.shape
  have H := Lib.hid h
  have HN := Lib.hid hN
  have HC0 : Hid (n = 0 ∨ ∃ b o, p0 = some ⟨b, o, none⟩ ∧ lo ≤ b ∧ b < hi ∧ At w b o n 3 (nodC N)) := by
    obtain ⟨p, cap, hv, _, _, hc⟩ := g0.ex
    injection hv with e1 _ e2
    subst e1
    exact Lib.hid hc
  have HC1 : Hid (m = 0 ∨ ∃ b o, p1 = some ⟨b, o, none⟩ ∧ lo ≤ b ∧ b < hi ∧ At w b o m 5 (pipC P)) := by
    obtain ⟨p, cap, hv, _, _, hc⟩ := g1.ex
    injection hv with e1 _ e2
    subst e1
    exact Lib.hid hc
  clear h hN g0 g1
  have A1 := boxed w (.slice p0 n c0) (.slice p1 m c1) 39
  have C1 := below_new w (.cells #[.slice p0 n c0, .slice p1 m c1] 39)
  have hs1 := C1.size
  go_enter Tryd.func19, Tryd.ntmps19
  go_wp2_with fail
  generalize hW : w.alloc (Obj.cells #[.slice p0 n c0, .slice p1 m c1] 39) = w1 at *
  clear hW
  have hl1 := A1.lt
  refine (isNetwork_any w1 _ n N m P lo hi (H.out.below C1 hhi) (by omega) HN.out).mono ?_
  rintro e w2 ⟨rfl, b2⟩
  have A2 := A1.below b2 hl1
  have C2 := Lib.hid (C1.trans (b2.mono hs1))
  have hs2 := Nat.le_trans hs1 b2.size
  have hl2 := A2.lt
  clear A1 C1 b2
  cases hv : netB n N m P
  · have hT : Hid (netT n N m P = []) := Lib.hid (by unfold netT; rw [hv]; rfl)
    go_wp2_with fail
    go_ret
    exact ⟨ret_str (by rw [hT.out]), C2.out⟩
  have hT : Hid (netT n N m P = netL n N m P) := Lib.hid (by unfold netT; rw [hv]; rfl)
  obtain ⟨h1, h2, hn24, hm40⟩ := net_all hv
  have HV := Lib.hid hv
  have HN1 := Lib.hid h1
  have HP1 := Lib.hid h2
  clear h1 h2
  have a0 := A2.b0
  have a1 := A2.b1
  have B3 := Lib.fresh_isBuilder 75 5 w2
  have D3 := below_new w2 (.cells #[.pointer none, .slice none 0 0] 75)
  go_wp2_with fail
  clear hv a0 a1
  generalize hW : w2.alloc (Obj.cells #[.pointer none, .slice none 0 0] 75) = w3 at *
  clear hW
  obtain ⟨bb, hbb⟩ : ∃ bb, bb = w2.heap.size := ⟨_, rfl⟩
  rw [← hbb] at B3 D3 ⊢
  replace hbb := Nat.le_antisymm_iff.1 hbb
  go_loopw [14, 5] (fun i _ wr => ∃ k : Nat, i = .int .i64 k ∧ k ≤ n ∧ Lib.IsBuilder 75 5 bb bb (Lib.byteCells (nodesT N k)) wr ∧ Below bb w2 wr) (fun i _ _ => n - (intOf i).toNat)
  case atStart => exact ⟨0, rfl, Nat.zero_le _, B3, D3⟩
  case round =>
    obtain ⟨k, rfl, hk, hI, hB⟩ := hrel
    have HI := Lib.hid hI
    have HB := Lib.hid hB
    have hsr := hB.size
    have hbr := isB_lt hI
    clear hB hI B3 D3
    by_cases hlt : k < n
    · have hkI : (k : Int) < n := by omega
      rcases HC0.out with h0 | ⟨b, o, rfl, hlo, hb, g3⟩
      · omega
      have hbw : b < w.heap.size := by omega
      have hC : Below w.heap.size w wr := C2.out.trans (HB.out.mono (by omega))
      have y0 : wr.cell? ⟨b, o + k * 3, none⟩ = some (.string (N k).s) := (hC.cell (p := ⟨b, o + k * 3, none⟩) hbw).trans (g3.cell k 0 hlt (by omega))
      have y1 : wr.cell? ⟨b, o + k * 3 + 1, none⟩ = some (.int .i64 (N k).lo) := (hC.cell (p := ⟨b, o + k * 3 + 1, none⟩) hbw).trans (g3.cell k 1 hlt (by omega))
      have y2 : wr.cell? ⟨b, o + k * 3 + 2, none⟩ = some (.int .i64 (N k).hi) := (hC.cell (p := ⟨b, o + k * 3 + 2, none⟩) hbw).trans (g3.cell k 2 hlt (by omega))
      have hl := nodesT_len (N := N) (k := k) (fun i hi => HN1.out i (by omega))
      have hq := nodeT_len (N k)
      have V1 := boxedN wr (N k) 26
      have b1 := below_new wr (.cells #[.string (N k).s, .int .i64 (N k).lo, .int .i64 (N k).hi] 26)
      have HCr := Lib.hid hC
      clear g3 hC
      go_wp2_with fail
      generalize hW : wr.alloc (Obj.cells #[.string (N k).s, .int .i64 (N k).lo, .int .i64 (N k).hi] 26) = w4 at *
      clear hW V1
      have hs4 := b1.size
      have C4 := HCr.out.trans (b1.mono (by omega))
      refine (nodeLine_any (N k) _ (HN.out k hlt) (pow_below HP.out C4)).mono ?_
      rintro e w5 ⟨rfl, b5⟩
      have I5 := isB_next (isB_next HI.out b1) b5
      have D5 := (HB.out.trans (b1.mono (by omega))).trans (b5.mono (by omega))
      have hs5 := b5.size
      clear b1 b5 C4
      go_wp2_with fail
      refine (write_any _ bb _ _ I5 (by omega) (by omega)).mono ?_
      rintro e w6 ⟨⟨vv, rfl⟩, I6, D6⟩
      have HI6 := Lib.hid I6
      have HD6 := Lib.hid (D5.trans D6)
      clear I5 D5 I6 D6
      go_wp2_with fail
      go_roundw
      case rel => exact ⟨k + 1, by go_num, hlt, by rw [nodeT_yes (HN1.out k hlt)] at HI6; exact HI6.out, HD6.out⟩
      case measure => simp [intOf]; omega
    · obtain rfl : k = n := by omega
      obtain ⟨w5, hw5⟩ : ∃ w', w' = wr := ⟨_, rfl⟩
      subst hw5
      have hl := nodesT_len (N := N) (k := k) (fun i hi => HN1.out i (by omega))
      have A5 := A2.below HB.out (by omega)
      have a0 := A5.b0
      have a1 := A5.b1
      have hl5 := A5.lt
      clear HC0
      go_wp2_with fail
      clear a0 a1
      go_loopw [26, 7] (fun i _ wr => ∃ j : Nat, i = .int .i64 j ∧ j ≤ m ∧ Lib.IsBuilder 75 5 bb bb (Lib.byteCells (nodesT N k ++ pipesT N P j)) wr ∧ Below bb w2 wr) (fun i _ _ => m - (intOf i).toNat)
      case atStart => exact ⟨0, rfl, Nat.zero_le _, by simpa [pipesT] using HI.out, HB.out⟩
      case round =>
        obtain ⟨j, rfl, hj, hI2, hB2⟩ := hrel
        obtain ⟨w6, hw6⟩ : ∃ w', w' = wr := ⟨_, rfl⟩
        subst hw6
        have HI2 := Lib.hid hI2
        have HB2 := Lib.hid hB2
        have hsr2 := hB2.size
        have hbr2 := isB_lt hI2
        have A6 := A2.below hB2 (by omega)
        have hl6 := A6.lt
        have hp := pipesT_len (N := N) (P := P) (k := j) HN1.out (fun i hi => HP1.out i (by omega))
        clear hI2 hB2
        by_cases hlt2 : j < m
        · have hjI : (j : Int) < m := by omega
          rcases HC1.out with h0 | ⟨b, o, rfl, hlo, hb, g3⟩
          · omega
          have hbw : b < w.heap.size := by omega
          have hC : Below w.heap.size w w6 := C2.out.trans (HB2.out.mono (by omega))
          have y0 : w6.cell? ⟨b, o + j * 5, none⟩ = some (.int .i64 (P j).f) := (hC.cell (p := ⟨b, o + j * 5, none⟩) hbw).trans (g3.cell j 0 hlt2 (by omega))
          have y1 : w6.cell? ⟨b, o + j * 5 + 1, none⟩ = some (.int .i64 (P j).t) := (hC.cell (p := ⟨b, o + j * 5 + 1, none⟩) hbw).trans (g3.cell j 1 hlt2 (by omega))
          have y2 : w6.cell? ⟨b, o + j * 5 + 2, none⟩ = some (.int .i64 (P j).k) := (hC.cell (p := ⟨b, o + j * 5 + 2, none⟩) hbw).trans (g3.cell j 2 hlt2 (by omega))
          have y3 : w6.cell? ⟨b, o + j * 5 + 3, none⟩ = some (.int .i64 (P j).v) := (hC.cell (p := ⟨b, o + j * 5 + 3, none⟩) hbw).trans (g3.cell j 3 hlt2 (by omega))
          have y4 : w6.cell? ⟨b, o + j * 5 + 4, none⟩ = some (.int .i64 (P j).l) := (hC.cell (p := ⟨b, o + j * 5 + 4, none⟩) hbw).trans (g3.cell j 4 hlt2 (by omega))
          have hpl := pip_len HN1.out (HP1.out j hlt2)
          have V1 := boxedPp w6 (P j) 65
          have b1 := below_new w6 (.cells #[.int .i64 (P j).f, .int .i64 (P j).t, .int .i64 (P j).k, .int .i64 (P j).v, .int .i64 (P j).l] 65)
          have hs7 := b1.size
          have A7 := A6.below b1 hl6
          have a0 := A7.b0
          have a1 := A7.b1
          have C7 := Lib.hid (hC.trans (b1.mono (by omega)))
          clear g3 hC A6
          go_wp2_with fail
          generalize hW : w6.alloc (Obj.cells #[.int .i64 (P j).f, .int .i64 (P j).t, .int .i64 (P j).k, .int .i64 (P j).v, .int .i64 (P j).l] 65) = w7 at *
          clear hW V1 a0 a1 A7
          obtain ⟨f, t, hsrc⟩ := src_of (H.out.below C7.out hhi) (by omega) HV.out hlt2
          refine (lineOf_any _ _ k N hi (P j) f t hsrc (pow_below HP.out C7.out)).mono ?_
          rintro e w8 ⟨rfl, b8⟩
          have I8 := isB_next (isB_next HI2.out b1) b8
          have D8 := (HB2.out.trans (b1.mono (by omega))).trans (b8.mono (by omega))
          have hs8 := b8.size
          clear b1 b8 hsrc
          go_wp2_with fail
          refine (write_any _ bb _ _ I8 (by simp only [List.length_append]; omega) (by omega)).mono ?_
          rintro e w9 ⟨⟨vv, rfl⟩, I9, D9⟩
          have HI9 := Lib.hid I9
          have HD9 := Lib.hid (D8.trans D9)
          clear I8 D8 I9 D9
          go_wp2_with fail
          go_roundw
          case rel => exact ⟨j + 1, by go_num, hlt2, by rw [List.append_assoc] at HI9; exact HI9.out, HD9.out⟩
          case measure => simp [intOf]; omega
        · obtain rfl : j = m := by omega
          go_wp2_with fail
          refine (builder_string bb bb _ _ HI2.out (by omega)).mono ?_
          rintro e w8 ⟨rfl, b8⟩
          have D8 := HB2.out.trans b8
          go_wp2_with fail
          go_ret
          exact ⟨ret_str (by rw [hT.out]; rfl), C2.out.trans (D8.mono (by omega))⟩
theorem agreeNetworkText (n : Nat) (N : Nat → Nod) (m : Nat) (P : Nat → Pip) (hN : ∀ i, i < n → (N i).s.size ≤ 9223372036854775807) (hn : n ≤ 2000000) (hm : m ≤ 2000000) :
    ∃ rt, (∀ w v, NetAt w v n N m P 0 w.heap.size → Pow w → Calls Tryd.prog 19 #[v] w (StrPost w rt)) ∧ (∀ w v, NetAt w v n N m P 0 w.heap.size → Calls Tryd.prog 18 #[v] w (StrPost w rt)) :=
  ⟨_, fun w v h hp => networkText_any w v n N m P 0 _ h (Nat.le_refl _) hN hp, fun w v h => sNetworkText_any w v n N m P 0 _ h (Nat.le_refl _) hN⟩
end Go.Proofs.YtemjeoelglkhkaaDoor.text
