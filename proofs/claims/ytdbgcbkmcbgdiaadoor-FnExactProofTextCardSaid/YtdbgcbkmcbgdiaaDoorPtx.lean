/-
  Chapter 12: the text of a proof in the model. Conditions: the arguments lie in the memory as lists.
-/
import Derived.Test.YtdbgcbkmcbgdiaaDoorRows
import Derived.Test.YtdbgcbkmcbgdiaaDoorPtl
import Derived.WalkKit
import Derived.ProofKit
import Derived.Lib.Hide
import Derived.Laws.Concat
import Derived.Deep.RegionHeld3
import Derived.OwnWalk
namespace Go.Proofs.YtdbgcbkmcbgdiaaDoor.text
open Go.RowKit Go.Proofs.YtdbgcbkmcbgdiaaDoor.mem
set_option linter.unusedVariables false
set_option maxRecDepth 100000

theorem name_len {s : ByteArray} (h : nameB s = true) : s.size ≤ 8 := by
  unfold nameB at h
  simp only [Bool.and_eq_true, decide_eq_true_eq] at h
  exact h.1.2
theorem nod_bd {q : Nod} (h : nodB q = true) : q.s.size ≤ 8 := by
  unfold nodB at h
  simp only [Bool.and_eq_true, decide_eq_true_eq] at h
  exact name_len h.1.1.1
theorem net_all {n : Nat} {N : Nat → Nod} {m : Nat} {P : Nat → Pip} (h : netB n N m P = true) : (∀ i, i < n → (N i).s.size ≤ 8) ∧ n ≤ 24 ∧ m ≤ 40 := by
  unfold netB at h
  simp only [Bool.and_eq_true] at h
  exact ⟨fun i hi => nod_bd ((nodesB_iff.1 h.1.2).1 i hi), (szB_iff.1 h.1.1).2.1, (szB_iff.1 h.1.1).2.2⟩
theorem pip_ends {n : Nat} {N : Nat → Nod} {m : Nat} {P : Nat → Pip} (h : netB n N m P = true) {k : Nat} (hk : k < m) : ∃ a b : Nat, (P k).f = (a : Int) ∧ (P k).t = (b : Int) ∧ a < n ∧ b < n := by
  have h := net_pip h hk
  unfold pipB at h
  simp only [Bool.and_eq_true, inR_iff] at h
  obtain ⟨⟨⟨⟨⟨h1, h2⟩, _⟩, h3⟩, h4⟩, h5⟩ := h
  exact ⟨(P k).f.toNat, (P k).t.toNat, by omega, by omega, by omega, by omega⟩
def ndP (N : Nat → Nod) (l : Nat → Int) : Nat → List UInt8
  | 0 => []
  | k + 1 => ndP N l k ++ lnP (N k).s.data.toList (l k)
def ppN (N : Nat → Nod) (q : Pip) : List UInt8 := (N q.f.toNat).s.data.toList ++ (62 :: (N q.t.toNat).s.data.toList)
def ppP (N : Nat → Nod) (P : Nat → Pip) (f : Nat → Int) : Nat → List UInt8
  | 0 => []
  | k + 1 => ppP N P f k ++ lnP (ppN N (P k)) (f k)
noncomputable def ptT (n : Nat) (N : Nat → Nod) (m : Nat) (P : Nat → Pip) (F : Nat) (f : Nat → Int) (L : Nat) (l : Nat → Int) : List UInt8 := if prC n N m P F f L l = 0 then ndP N l n ++ ppP N P f m else []
theorem dl (s : ByteArray) : s.data.toList.length = s.size := Array.length_toList
theorem ndP_len {N : Nat → Nod} {l : Nat → Int} {k : Nat} (h : ∀ i, i < k → (N i).s.size ≤ 8) (hl : ∀ i, i < k → -1000000000000000000 ≤ l i ∧ l i ≤ 1000000000000000000) : (ndP N l k).length ≤ 31 * k := by
  induction k with
  | zero => exact Nat.le_refl _
  | succ k ih =>
    have h1 := ih (fun i hi => h i (by omega)) (fun i hi => hl i (by omega))
    have h2 := lnP_len (N k).s.data.toList (hl k (by omega)).1 (hl k (by omega)).2
    have h3 := h k (by omega)
    rw [dl] at h2
    show (ndP N l k ++ lnP (N k).s.data.toList (l k)).length ≤ _
    rw [List.length_append]
    omega
theorem ppN_len {n : Nat} {N : Nat → Nod} {q : Pip} {a b : Nat} (h : ∀ i, i < n → (N i).s.size ≤ 8) (ha : q.f = (a : Int)) (hb : q.t = (b : Int)) (han : a < n) (hbn : b < n) : (ppN N q).length ≤ 17 := by
  have h1 := h a han
  have h2 := h b hbn
  unfold ppN
  rw [List.length_append, List.length_cons, dl, dl, ha, hb, Int.toNat_natCast, Int.toNat_natCast]
  omega
theorem ppP_len {n : Nat} {N : Nat → Nod} {m : Nat} {P : Nat → Pip} {f : Nat → Int} (hB : netB n N m P = true) (hf : ∀ i, i < m → -30000 ≤ f i ∧ f i ≤ 30000) {k : Nat} (hk : k ≤ m) : (ppP N P f k).length ≤ 41 * k := by
  induction k with
  | zero => exact Nat.le_refl _
  | succ k ih =>
    have h1 := ih (by omega)
    obtain ⟨a, b, ha, hb, han, hbn⟩ := pip_ends hB (show k < m by omega)
    have h3 := ppN_len (net_all hB).1 ha hb han hbn
    have h2 := lnP_len (ppN N (P k)) (x := f k) (by have := hf k (by omega); omega) (by have := hf k (by omega); omega)
    show (ppP N P f k ++ lnP (ppN N (P k)) (f k)).length ≤ _
    rw [List.length_append]
    omega
theorem catA (X : List UInt8) (s : ByteArray) (d : List UInt8) : (ByteArray.mk X.toArray ++ s ++ ByteArray.mk #[61] ++ ByteArray.mk d.toArray ++ ByteArray.mk #[10]) = ByteArray.mk (X ++ (s.data.toList ++ (61 :: (d ++ [10])))).toArray := by
  apply ByteArray.ext
  simp [ByteArray.data_append]
theorem catB (X : List UInt8) (s t : ByteArray) (d : List UInt8) : (ByteArray.mk X.toArray ++ s ++ ByteArray.mk #[62] ++ t ++ ByteArray.mk #[61] ++ ByteArray.mk d.toArray ++ ByteArray.mk #[10]) = ByteArray.mk (X ++ ((s.data.toList ++ (62 :: t.data.toList)) ++ (61 :: (d ++ [10])))).toArray := by
  apply ByteArray.ext
  simp [ByteArray.data_append]

set_option maxHeartbeats 8000000 in
theorem sProofText_any (w : World) (v : Value) (n : Nat) (N : Nat → Nod) (m : Nat) (P : Nat → Pip) (lo hi : Nat) (h : NetAt w v n N m P lo hi) (hhi : hi ≤ w.heap.size) (hN : ∀ i, i < n → (N i).s.size ≤ 9223372036854775807) (vp : Value) (F : Nat) (f : Nat → Int) (L : Nat) (l : Nat → Int) (lp hp : Nat) (hpr : PrAt w vp F f L l lp hp) (hhp : hp ≤ w.heap.size) (hF9 : F ≤ 9223372036854775807) (hL9 : L ≤ 9223372036854775807) :
    Calls Tryd.prog 6 #[v, vp] w (StrPost w (ptT n N m P F f L l)) := by
  obtain ⟨v0, v1, rfl, g0, g1⟩ := h.ex
  obtain ⟨p0, c0, rfl⟩ := g0.shape
  obtain ⟨p1, c1, rfl⟩ := g1.shape
  obtain ⟨q0, d0, q1, d1, rfl⟩ := hpr.shape
  obtain ⟨hf, hl⟩ := hpr.two
  have HV := Lib.hid h
  have HN := Lib.hid hN
  have HPR := Lib.hid hpr
  have HC0 : Hid (n = 0 ∨ ∃ b o, p0 = some ⟨b, o, none⟩ ∧ lo ≤ b ∧ b < hi ∧ At w b o n 3 (nodC N)) := by
    obtain ⟨p, cap, hv, _, _, hc⟩ := g0.ex
    injection hv with e1 _ e2
    subst e1
    exact Lib.hid hc
  have HC1 : Hid (m = 0 ∨ ∃ b o, p1 = some ⟨b, o, none⟩ ∧ lo ≤ b ∧ b < hi ∧ At w b o m 5 (pipC P)) := by
    obtain ⟨p, cap, hv, _, _, hc⟩ := g1.ex
    injection hv with e1 _ e2
    subst e1
    exact Lib.hid hc
  have HCF : Hid (F = 0 ∨ ∃ b o, q0 = some ⟨b, o, none⟩ ∧ lp ≤ b ∧ b < hp ∧ ∀ k, k < F → w.cell? ⟨b, o + k, none⟩ = some (.int .i64 (f k))) := by
    obtain ⟨p, cap, hv, hc⟩ := hf.ex
    injection hv with e1 _ e2
    subst e1
    exact Lib.hid hc
  have HCL : Hid (L = 0 ∨ ∃ b o, q1 = some ⟨b, o, none⟩ ∧ lp ≤ b ∧ b < hp ∧ ∀ k, k < L → w.cell? ⟨b, o + k, none⟩ = some (.int .i64 (l k))) := by
    obtain ⟨p, cap, hv, hc⟩ := hl.ex
    injection hv with e1 _ e2
    subst e1
    exact Lib.hid hc
  have A0 := (boxed w (.slice p0 n c0) (.slice p1 m c1) 35).keep (Below.heap_alloc _ (.cells #[.slice q0 F d0, .slice q1 L d1] 37) _ (by rw [szal]; omega))
  have C0 := boxed (w.alloc (.cells #[.slice p0 n c0, .slice p1 m c1] 35)) (.slice q0 F d0) (.slice q1 L d1) 37
  simp only [szal] at C0
  have B0 := (below_new w (.cells #[.slice p0 n c0, .slice p1 m c1] 35)).trans ((below_new _ (.cells #[.slice q0 F d0, .slice q1 L d1] 37)).mono (by rw [szal]; omega))
  have hs0 : ((w.alloc (.cells #[.slice p0 n c0, .slice p1 m c1] 35)).alloc (.cells #[.slice q0 F d0, .slice q1 L d1] 37)).heap.size = w.heap.size + 1 + 1 := by simp
  clear h hN hpr hf hl g0 g1
  go_enter Tryd.func6, Tryd.ntmps6
  have e0' := A0.b0
  have e1' := A0.b1
  have k0' := C0.b0
  have k1' := C0.b1
  go_wp2_with fail
  refine (l12Form_any _ _ n N m P lo hi (HV.out.below B0 hhi) (by omega) HN.out _ F f L l lp hp (HPR.out.below B0 hhp) (by omega) hF9 hL9).mono ?_
  rintro e w2 ⟨rfl, b2⟩
  have A2 := A0.below b2 (by omega)
  have C2 := C0.below b2 (by omega)
  have B2 := B0.trans (b2.mono (by omega))
  have hs2 := b2.size
  have u2 : w.heap.size + 1 + 1 ≤ w2.heap.size := by omega
  clear A0 C0 B0 b2 hs2 e0' e1' k0' k1' hs0
  by_cases hc : prC n N m P F f L l = 0
  rotate_left 1
  · have hb1 : (prC n N m P F f L l != 0) = true := by simpa using hc
    have HT := Lib.hid (show ptT n N m P F f L l = [] by unfold ptT; rw [if_neg hc])
    clear hc
    go_wp2_with fail
    go_ret
    exact ⟨ret_str (by rw [HT.out]), B2⟩
  have HT := Lib.hid (show ptT n N m P F f L l = ndP N l n ++ ppP N P f m by unfold ptT; rw [if_pos hc])
  obtain ⟨hB, rfl, rfl, hf, hl⟩ := prC_ok hc
  obtain ⟨h1, hn24, hm40⟩ := net_all hB
  have HB0 := Lib.hid hB
  have HS := Lib.hid h1
  have HFR := Lib.hid hf
  have HLR := Lib.hid hl
  rw [hc]
  clear hc hB hf hl h1
  have HA := Lib.hid A2
  have HC := Lib.hid C2
  have HB2 := Lib.hid B2
  clear A2 C2 B2
  go_wp2_with fail
  go_loopw [6, 5] (fun i out wr => ∃ k : Nat, i = .int .i64 k ∧ out = .string ⟨(ndP N l k).toArray⟩ ∧ k ≤ L ∧ Below w2.heap.size w2 wr) (fun i _ _ => L - (intOf i).toNat)
  case atStart => exact ⟨0, rfl, rfl, Nat.zero_le _, Below.refl _ _⟩
  case round =>
    obtain ⟨k, rfl, rfl, hk, hB⟩ := hrel
    have a0 := (HA.out.below hB (by omega)).b0
    have a1 := (HA.out.below hB (by omega)).b1
    have k0 := (HC.out.below hB (by omega)).b0
    have k1 := (HC.out.below hB (by omega)).b1
    have HBB := Lib.hid hB
    have hsr := hB.size
    have BW := Lib.hid (HB2.out.trans (hB.mono (by omega)))
    clear hB
    by_cases hlt : k < L
    · have hkI : (k : Int) < L := by omega
      rcases HC0.out with h0 | ⟨b, o, rfl, hlo, hb, g3⟩
      · omega
      rcases HCL.out with h0 | ⟨bl, ol, rfl, hlol, hbl, g4⟩
      · omega
      have y0 : wr.cell? ⟨b, o + k * 3, none⟩ = some (.string (N k).s) := (BW.out.cell (p := ⟨b, o + k * 3, none⟩) (by show b < _; omega)).trans (g3.cell k 0 hlt (by omega))
      have y1 : wr.cell? ⟨bl, ol + k, none⟩ = some (.int .i64 (l k)) := (BW.out.cell (p := ⟨bl, ol + k, none⟩) (by show bl < _; omega)).trans (g4 k hlt)
      have hlen := ndP_len (N := N) (l := l) (k := k) (fun i hi => HS.out i (by omega)) (fun i hi => HLR.out i (by omega))
      have hsz := HS.out k hlt
      obtain ⟨hx0, hx1⟩ := HLR.out k hlt
      have hil := Lib.itoa_length_le (l k) (by omega) (by omega)
      have q1' : ¬ 9223372036854775807 < (ndP N l k).length + (N k).s.size := by omega
      have q2' : ¬ 9223372036854775807 < (ndP N l k).length + (N k).s.size + 1 := by omega
      have q3' : ¬ 9223372036854775807 < (ndP N l k).length + (N k).s.size + 1 + (Lib.itoa (l k)).length := by omega
      have q4' : ¬ 9223372036854775807 < (ndP N l k).length + (N k).s.size + 1 + (Lib.itoa (l k)).length + 1 := by omega
      have n1 : b < wr.heap.size := by omega
      have n2 : bl < wr.heap.size := by omega
      have n3 : w.heap.size < wr.heap.size := by omega
      have n4 : w.heap.size + 1 < wr.heap.size := by omega
      clear g3 g4
      go_wp2_with fail
      have KS : ∀ W : World, Below wr.heap.size wr W → (W.cell? ⟨w.heap.size, 0, none⟩ = some (.slice (some ⟨b, o, none⟩) L c0) ∧ W.cell? ⟨w.heap.size + 1, 1, none⟩ = some (.slice (some ⟨bl, ol, none⟩) L d1) ∧ W.cell? ⟨b, o + k * 3, none⟩ = some (.string (N k).s) ∧ W.cell? ⟨bl, ol + k, none⟩ = some (.int .i64 (l k))) := fun W hW => ⟨(hW.cell (p := ⟨w.heap.size, 0, none⟩) n3).trans a0, (hW.cell (p := ⟨w.heap.size + 1, 1, none⟩) n4).trans k1, (hW.cell (p := ⟨b, o + k * 3, none⟩) n1).trans y0, (hW.cell (p := ⟨bl, ol + k, none⟩) n2).trans y1⟩
      have K0 : Below wr.heap.size wr wr.drew := ⟨rfl, rfl, rfl, Nat.le_refl _, fun _ _ => rfl⟩
      go_region_held3 (fun W : World => W.cell? ⟨w.heap.size, 0, none⟩ = some (.slice (some ⟨b, o, none⟩) L c0) ∧ W.cell? ⟨w.heap.size + 1, 1, none⟩ = some (.slice (some ⟨bl, ol, none⟩) L d1) ∧ W.cell? ⟨b, o + k * 3, none⟩ = some (.string (N k).s) ∧ W.cell? ⟨bl, ol + k, none⟩ = some (.int .i64 (l k))) (first | exact KS _ K0 | exact KS _ KX)
        (first | (go_at_call 16; refine (sNumber_any (l k) _ hx0 hx1).mono ?_; rintro e wx ⟨rfl, bx⟩; have KX : Below wr.heap.size wr wx := K0.trans (bx.mono (Nat.le_refl _))))
      have HB7 := Lib.hid (HBB.out.trans (KX.mono hsr))
      go_wp2_with fail
      go_roundw
      case rel => exact ⟨k + 1, by go_num, by rw [catA]; rfl, hlt, HB7.out⟩
      case measure => simp [intOf]; omega
    · obtain rfl : k = L := by omega
      obtain ⟨w5, hw5⟩ : ∃ w', w' = wr := ⟨_, rfl⟩
      subst hw5
      have hlen := ndP_len (N := N) (l := l) (k := k) (fun i hi => HS.out i (by omega)) (fun i hi => HLR.out i (by omega))
      have A5 := HA.out.below HBB.out (by omega)
      have C5 := HC.out.below HBB.out (by omega)
      have hl5 : w.heap.size + 1 < w5.heap.size := by omega
      clear HBB HA HC HB2 HCL
      go_wp2_with fail
      clear a0 a1 k0 k1
      go_loopw [7, 5] (fun i out wr => ∃ j : Nat, i = .int .i64 j ∧ out = .string ⟨(ndP N l k ++ ppP N P f j).toArray⟩ ∧ j ≤ F ∧ Below w5.heap.size w5 wr) (fun i _ _ => F - (intOf i).toNat)
      case atStart => exact ⟨0, rfl, by simp [ppP], Nat.zero_le _, Below.refl _ _⟩
      case round =>
        obtain ⟨j, rfl, rfl, hj, hB⟩ := hrel
        obtain ⟨w6, hw6⟩ : ∃ w', w' = wr := ⟨_, rfl⟩
        subst hw6
        have HBB := Lib.hid hB
        have hsr6 := hB.size
        have B6 := Lib.hid (BW.out.trans (hB.mono (by omega)))
        have a0 := (A5.below hB (by omega)).b0
        have a1 := (A5.below hB (by omega)).b1
        have k0 := (C5.below hB (by omega)).b0
        have k1 := (C5.below hB (by omega)).b1
        clear hB
        by_cases hlt2 : j < F
        · have hjI : (j : Int) < F := by omega
          obtain ⟨a, t, haf, hat, han, htn⟩ := pip_ends HB0.out hlt2
          rcases HC0.out with h0 | ⟨bn, on, rfl, hlon, hbn, g3⟩
          · omega
          rcases HC1.out with h0 | ⟨b, o, rfl, hlo, hb, g5⟩
          · omega
          rcases HCF.out with h0 | ⟨bl, ol, rfl, hlol, hbl, g4⟩
          · omega
          have y0 : w6.cell? ⟨b, o + j * 5, none⟩ = some (.int .i64 (P j).f) := (B6.out.cell (p := ⟨b, o + j * 5, none⟩) (by show b < _; omega)).trans (g5.cell j 0 hlt2 (by omega))
          have y1 : w6.cell? ⟨b, o + j * 5 + 1, none⟩ = some (.int .i64 (P j).t) := (B6.out.cell (p := ⟨b, o + j * 5 + 1, none⟩) (by show b < _; omega)).trans (g5.cell j 1 hlt2 (by omega))
          have y2 : w6.cell? ⟨b, o + j * 5 + 2, none⟩ = some (.int .i64 (P j).k) := (B6.out.cell (p := ⟨b, o + j * 5 + 2, none⟩) (by show b < _; omega)).trans (g5.cell j 2 hlt2 (by omega))
          have y3 : w6.cell? ⟨b, o + j * 5 + 3, none⟩ = some (.int .i64 (P j).v) := (B6.out.cell (p := ⟨b, o + j * 5 + 3, none⟩) (by show b < _; omega)).trans (g5.cell j 3 hlt2 (by omega))
          have y4 : w6.cell? ⟨b, o + j * 5 + 4, none⟩ = some (.int .i64 (P j).l) := (B6.out.cell (p := ⟨b, o + j * 5 + 4, none⟩) (by show b < _; omega)).trans (g5.cell j 4 hlt2 (by omega))
          have z0 : w6.cell? ⟨bn, on + a * 3, none⟩ = some (.string (N a).s) := (B6.out.cell (p := ⟨bn, on + a * 3, none⟩) (by show bn < _; omega)).trans (g3.cell a 0 han (by omega))
          have z1 : w6.cell? ⟨bn, on + t * 3, none⟩ = some (.string (N t).s) := (B6.out.cell (p := ⟨bn, on + t * 3, none⟩) (by show bn < _; omega)).trans (g3.cell t 0 htn (by omega))
          have x0 : w6.cell? ⟨bl, ol + j, none⟩ = some (.int .i64 (f j)) := (B6.out.cell (p := ⟨bl, ol + j, none⟩) (by show bl < _; omega)).trans (g4 j hlt2)
          have hlen2 := ppP_len (f := f) HB0.out HFR.out hj
          have hsa := HS.out a han
          have hst := HS.out t htn
          obtain ⟨hx0, hx1⟩ := HFR.out j hlt2
          have hx0' : -1000000000000000000 ≤ f j := by omega
          have hx1' : f j ≤ 1000000000000000000 := by omega
          have hil := Lib.itoa_length_le (f j) (by omega) (by omega)
          have HQ := Lib.hid (show ppN N (P j) = (N a).s.data.toList ++ (62 :: (N t).s.data.toList) by unfold ppN; rw [haf, hat, Int.toNat_natCast, Int.toNat_natCast])
          rw [haf] at y0
          rw [hat] at y1
          have hA3 : (a : Int) < k := by omega
          have hT3 : (t : Int) < k := by omega
          have V1 := boxedP w6 ⟨(a : Int), (t : Int), (P j).k, (P j).v, (P j).l⟩ 50
          have b7 := below_new w6 (.cells #[.int .i64 (a : Int), .int .i64 (t : Int), .int .i64 (P j).k, .int .i64 (P j).v, .int .i64 (P j).l] 50)
          have hs7 : (w6.alloc (.cells #[.int .i64 (a : Int), .int .i64 (t : Int), .int .i64 (P j).k, .int .i64 (P j).v, .int .i64 (P j).l] 50)).heap.size = w6.heap.size + 1 := by simp
          clear g3 g4 g5
          go_upto_region 12 with (fail)
          obtain ⟨w7, hw7⟩ : ∃ w7, w6.alloc (.cells #[.int .i64 (a : Int), .int .i64 (t : Int), .int .i64 (P j).k, .int .i64 (P j).v, .int .i64 (P j).l] 50) = w7 := ⟨_, rfl⟩
          rw [hw7] at V1 b7 hs7 ⊢
          clear hw7
          have v0 := V1.cell 0 (by omega)
          have v1 := V1.cell 1 (by omega)
          simp only [vp] at v0 v1
          have HB7 := Lib.hid (HBB.out.trans (b7.mono (by omega)))
          have hs7' := Nat.le_antisymm_iff.1 hs7
          have m1 : b < w6.heap.size := by omega
          have m2 : bn < w6.heap.size := by omega
          have m3 : bl < w6.heap.size := by omega
          have m4 : w.heap.size < w6.heap.size := by omega
          have m5 : w.heap.size + 1 < w6.heap.size := by omega
          have m6 : w6.heap.size < w7.heap.size := by omega
          have r1' : ¬ 9223372036854775807 < (ndP N l k).length + (ppP N P f j).length + (N a).s.size := by omega
          have r2' : ¬ 9223372036854775807 < (ndP N l k).length + (ppP N P f j).length + (N a).s.size + 1 := by omega
          have r3' : ¬ 9223372036854775807 < (ndP N l k).length + (ppP N P f j).length + (N a).s.size + 1 + (N t).s.size := by omega
          have r4' : ¬ 9223372036854775807 < (ndP N l k).length + (ppP N P f j).length + (N a).s.size + 1 + (N t).s.size + 1 := by omega
          have r5' : ¬ 9223372036854775807 < (ndP N l k).length + (ppP N P f j).length + (N a).s.size + 1 + (N t).s.size + 1 + (Lib.itoa (f j)).length := by omega
          have r6' : ¬ 9223372036854775807 < (ndP N l k).length + (ppP N P f j).length + (N a).s.size + 1 + (N t).s.size + 1 + (Lib.itoa (f j)).length + 1 := by omega
          have T0 := (b7.cell (p := ⟨w.heap.size, 0, none⟩) m4).trans a0
          have T1 := (b7.cell (p := ⟨w.heap.size + 1, 0, none⟩) m5).trans k0
          have T2 := (b7.cell (p := ⟨bn, on + a * 3, none⟩) m2).trans z0
          have T3 := (b7.cell (p := ⟨bn, on + t * 3, none⟩) m2).trans z1
          have T4 := (b7.cell (p := ⟨bl, ol + j, none⟩) m3).trans x0
          clear b7 V1 hs7 y0 y1 y2 y3 y4 z0 z1 x0 a0 a1 k0 k1 hA3 hT3 haf hat
          have hA3 : (a : Int) < k := by omega
          have hT3 : (t : Int) < k := by omega
          have KS : ∀ W : World, Below w7.heap.size w7 W → (W.cell? ⟨w.heap.size, 0, none⟩ = some (.slice (some ⟨bn, on, none⟩) k c0) ∧ W.cell? ⟨w.heap.size + 1, 0, none⟩ = some (.slice (some ⟨bl, ol, none⟩) F d0) ∧ W.cell? ⟨bn, on + a * 3, none⟩ = some (.string (N a).s) ∧ W.cell? ⟨bn, on + t * 3, none⟩ = some (.string (N t).s) ∧ W.cell? ⟨bl, ol + j, none⟩ = some (.int .i64 (f j)) ∧ W.cell? ⟨w6.heap.size, 0, none⟩ = some (.int .i64 (a : Int)) ∧ W.cell? ⟨w6.heap.size, 1, none⟩ = some (.int .i64 (t : Int))) := fun W hW => ⟨(hW.cell (p := ⟨w.heap.size, 0, none⟩) (by show w.heap.size < _; omega)).trans T0, (hW.cell (p := ⟨w.heap.size + 1, 0, none⟩) (by show w.heap.size + 1 < _; omega)).trans T1, (hW.cell (p := ⟨bn, on + a * 3, none⟩) (by show bn < _; omega)).trans T2, (hW.cell (p := ⟨bn, on + t * 3, none⟩) (by show bn < _; omega)).trans T3, (hW.cell (p := ⟨bl, ol + j, none⟩) (by show bl < _; omega)).trans T4, (hW.cell (p := ⟨w6.heap.size, 0, none⟩) m6).trans v0, (hW.cell (p := ⟨w6.heap.size, 1, none⟩) m6).trans v1⟩
          have K0 : Below w7.heap.size w7 w7.drew := ⟨rfl, rfl, rfl, Nat.le_refl _, fun _ _ => rfl⟩
          go_region_held3 (fun W : World => W.cell? ⟨w.heap.size, 0, none⟩ = some (.slice (some ⟨bn, on, none⟩) k c0) ∧ W.cell? ⟨w.heap.size + 1, 0, none⟩ = some (.slice (some ⟨bl, ol, none⟩) F d0) ∧ W.cell? ⟨bn, on + a * 3, none⟩ = some (.string (N a).s) ∧ W.cell? ⟨bn, on + t * 3, none⟩ = some (.string (N t).s) ∧ W.cell? ⟨bl, ol + j, none⟩ = some (.int .i64 (f j)) ∧ W.cell? ⟨w6.heap.size, 0, none⟩ = some (.int .i64 (a : Int)) ∧ W.cell? ⟨w6.heap.size, 1, none⟩ = some (.int .i64 (t : Int))) (first | exact KS _ K0 | exact KS _ KX)
            (first | (go_at_call 16; refine (sNumber_any (f j) _ hx0' hx1').mono ?_; rintro e wx ⟨rfl, bx⟩; have KX : Below w7.heap.size w7 wx := K0.trans (bx.mono (Nat.le_refl _))))
          have HB8 := Lib.hid (HB7.out.trans (KX.mono (by omega)))
          go_wp2_with fail
          go_roundw
          case rel => exact ⟨j + 1, by go_num, by rw [catB, List.append_assoc, ← HQ.out]; rfl, hlt2, HB8.out⟩
          case measure => simp [intOf]; omega
        · obtain rfl : j = F := by omega
          go_wp2_with fail
          go_ret
          exact ⟨ret_str (by rw [HT.out]), B6.out⟩
end Go.Proofs.YtdbgcbkmcbgdiaaDoor.text
