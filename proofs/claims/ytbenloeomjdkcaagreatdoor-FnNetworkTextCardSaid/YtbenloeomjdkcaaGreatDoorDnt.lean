/-
  The draws of FnNetworkText and FnWrongLines: a network; a text. Conditions: as each states.
-/
import Derived.Test.YtbenloeomjdkcaaGreatDoorRows
import Derived.Test.YtbenloeomjdkcaaGreatDoorDrG
import Derived.Test.YtbenloeomjdkcaaGreatDoorTwM
import Derived.Test.YtbenloeomjdkcaaGreatDoorDamage
import Derived.Test.YtbenloeomjdkcaaGreatDoorNetO
import Derived.WalkKit
import Derived.ProofKit
import Derived.Lib.Hide
import Derived.OwnWalk
import Derived.Outline
import Derived.Deep.RegionHeld3
import Derived.IntWalk
import Derived.Laws.IdiomStrings
namespace Go.Proofs.YtbenloeomjdkcaaGreatDoor.draw
open Go.RowKit
set_option linter.unusedVariables false

def NOnly (w : World) (e : Ending) (w' : World) : Prop :=
  ∃ (v : Value) (n m : Nat) (N : Nat → mem.Nod) (P : Nat → mem.Pip) (b1 b2 : Nat), e = .returned v ∧ n ≤ 1000 ∧ m ≤ 1000 ∧ (∀ i, i < n → (N i).s.size ≤ 9223372036854775807) ∧ mem.NetOwn w' v n N m P b1 b2 ∧ w.heap.size ≤ b1 ∧ w.heap.size ≤ b2 ∧ Below w.heap.size w w'
def TxDrawn (w : World) (e : Ending) (w' : World) : Prop := ∃ u : ByteArray, e = .returned (.string u) ∧ u.size ≤ 20000 ∧ Below w.heap.size w w'
set_option maxRecDepth 100000 in
set_option maxHeartbeats 8000000 in
theorem drawNetworkText (w : World) (cv : Value) (len : Nat) (hc : CodeAt w cv len w.heap.size) : Calls Tryz.prog 12 #[cv] w (NOnly w) := by
  have HC := Lib.hid hc
  have R1 := mem.boxed w (.slice none 0 0) (.slice none 0 0) 25
  have C1 := mem.below_new w (.cells #[.slice none 0 0, .slice none 0 0] 25)
  have hsz : (w.alloc (.cells #[.slice none 0 0, .slice none 0 0] 25)).heap.size = w.heap.size + 1 := by simp
  go_enter Tryz.func12, Tryz.ntmps12
  go_wp2_with fail
  generalize hW : w.alloc (.cells #[.slice none 0 0, .slice none 0 0] 25) = Wa at *
  clear hW hc
  replace hsz := Nat.le_antisymm_iff.1 hsz
  refine (from_any Wa cv len (by have := codeAt_below HC.out C1; rcases this with h | ⟨cb, co, cap, h1, h2, h3⟩; exact .inl h; exact .inr ⟨cb, co, cap, h1, by omega, h3⟩)).mono ?_
  rintro e w1 ⟨s1, rfl, hS1, B1, z1⟩
  obtain ⟨b, hbe⟩ : ∃ b, b = Wa.heap.size := ⟨_, rfl⟩
  rw [← hbe] at hS1 z1 ⊢
  replace hbe := Nat.le_antisymm_iff.1 hbe
  replace z1 := Nat.le_antisymm_iff.1 z1
  have C2 := mem.belowNext C1 B1
  have R2 := R1.next B1
  clear B1 C1 R1
  go_wp2_with fail
  refine (any_ok w1 b w.heap.size cv len 0 s1 hS1 (codeAt_below HC.out C2) (by omega)).mono ?_
  rintro e w2 ⟨v, n, m, N, P, b1, b2, i2, s2, rfl, hn, hm, hnm, hO, l1, l2, hS2, U2⟩
  obtain ⟨p0, c0, p1, c1, rfl⟩ := hO.shape
  have C3 := C2.trans (U2.below (by omega) (by rintro x _ rfl; omega))
  have R3 := R2.keep (U2.block w.heap.size (by omega) (by omega))
  have hU := U2.size
  clear C2 R2 hS1 hS2 U2
  have f0 := R3.free 0
  have f1 := R3.free 1
  have r0 := R3.b0
  have r1 := R3.b1
  have hQ := ((mem.Only.refl w.heap.size w2).setCell 0 (.slice p0 n c0)).setCell 1 (.slice p1 m c1)
  have HF := Lib.hid (C3.trans (hQ.below (Nat.le_refl _)))
  have HO := Lib.hid (hO.upd (mem.Upd.of_only hQ) (.inr (by omega)) (.inr (by omega)))
  clear hQ hO C3 R3
  go_wp2_with fail
  refine bodyPost_ret (v := .agg #[.slice p0 n c0, .slice p1 m c1]) (by simp [results, Tryz.results12, go_sem, r0, r1]) rfl ⟨_, n, m, N, P, b1, b2, rfl, hn, hm, hnm, HO.out, by omega, by omega, HF.out⟩
theorem info_u8 : (Tryz.prog.info? 5).map (fun i => (i.zero, i.size, i.bytes)) = some (some (.int .u8 0), 1, 1) := by kernel_rfl
def zero8 (n : Nat) : Array Value := madeCells #[.int .u8 0] n
theorem make_u8 (W : World) (n : Nat) (hn : n ≤ 2000000) : Sem.run Tryz.prog (Instr.makeSlice 31 (.int .i64 n) (.int .i64 n)) W = .ok (.slice (some ⟨W.heap.size, 0, none⟩) n n) (W.alloc (.cells (zero8 n) 5)) := by
  obtain ⟨i0, hi, hz0, hz1, hz2⟩ := info_parts info_u8
  have h := run_make (P := Tryz.prog) W 31 5 i0 (.int .u8 0) Tryz.underlying31 hi hz0 .i64 .i64 (n : Int) (n : Int) (by omega) (Int.le_refl _) (by rw [hz2]; omega) (by omega)
  rw [hz1] at h
  simpa [zero8, Value.cells] using h
theorem zero8_get (n k : Nat) (h : k < n) : (zero8 n)[k]? = some (.int .u8 0) := by
  unfold zero8 madeCells
  have : k % 1 = 0 := Nat.mod_one k
  simp [h, this]
set_option maxRecDepth 100000 in
theorem str_u8 (W : World) (n : Nat) : Sem.run Tryz.prog (convert 31 9 (.slice (some ⟨W.heap.size, 0, none⟩) n n)) (W.alloc (.cells (zero8 n) 5)) = .ok (.string ⟨(List.replicate n (0 : UInt8)).toArray⟩) (W.alloc (.cells (zero8 n) 5)) := by
  have h := run_convert_bytes_back (W.alloc (.cells (zero8 n) 5)) 31 9 5 ⟨W.heap.size, 0, none⟩ n (List.replicate n 0) Tryz.underlying31 Tryz.underlying5 Tryz.underlying9 (by
    intro j hj
    have hj2 : j < n := by simpa using hj
    have e := heap_alloc_new W (.cells (zero8 n) 5)
    by_cases h0 : j = 0
    · subst h0
      simp only [Addr.add, if_true, World.cell?, e]
      simp [zero8_get n 0 hj2]
    · simp only [Addr.add, if_neg h0, World.cell?, e]
      simp [zero8_get n j hj2])
  rw [List.length_replicate] at h
  exact h
theorem netT_sz (n : Nat) (N : Nat → mem.Nod) (m : Nat) (P : Nat → mem.Pip) : (text.netT n N m P).length ≤ 6000 := by
  unfold text.netT
  split
  · next h =>
    have hs := mem.net_sz h
    have h1 := h
    unfold mem.netB at h1
    simp only [Bool.and_eq_true] at h1
    have hN := (mem.nodesB_iff.1 h1.1.2).1
    have hP := mem.pipesB_iff.1 h1.2
    have a := text.nodesT_len (k := n) hN
    have b := text.pipesT_len (N := N) (P := P) (k := m) hN hP
    unfold text.netL
    rw [List.length_append]
    omega
  · exact Nat.zero_le _
set_option maxRecDepth 100000 in
set_option maxHeartbeats 8000000 in
theorem drawFirstWrongLine (w : World) (cv : Value) (len : Nat) (hc : CodeAt w cv len w.heap.size) : Calls Tryz.prog 17 #[cv] w (TxDrawn w) := by
  have HC := Lib.hid hc
  clear hc
  go_enter Tryz.func17, Tryz.ntmps17
  go_wp2_with fail
  refine (from_any w cv len HC.out).mono ?_
  rintro e w1 ⟨s1, rfl, S1, b1, z1⟩
  obtain ⟨b, hb⟩ : ∃ b, b = w.heap.size := ⟨_, rfl⟩
  have HBb := Nat.le_antisymm_iff.1 hb
  rw [← hb] at S1 z1 ⊢
  replace z1 := Nat.le_antisymm_iff.1 z1
  have B1 := Lib.hid b1
  have C1 := Lib.hid (codeAt_below HC.out b1)
  rw [← hb] at C1
  clear b1 HC hb
  go_wp2_with fail
  refine (any_ok w1 b b cv len 0 s1 S1 C1.out (Nat.le_refl _)).mono ?_
  rintro e w2 ⟨v, n, m, N, P, g1, g2, i2, s2, rfl, hn, hm, hnm, hO, l1, l2, S2, U2⟩
  obtain ⟨p0, c0, p1, c1, rfl⟩ := hO.shape
  have B2 := Lib.hid (B1.out.trans (U2.below (by omega) (by rintro x _ rfl; omega)))
  have C2 := Lib.hid (codeAt_below C1.out (U2.below (B := b) (by omega) (by rintro x _ rfl; omega)))
  have hU := U2.size
  clear U2 S1 C1 B1
  go_wp2_with fail
  refine (text.sNetworkText_any w2 _ n N m P 0 w2.heap.size hO.net (Nat.le_refl _) hnm).mono ?_
  rintro e w3 ⟨rfl, b3⟩
  have hlt2 := src_lt S2
  have B3 := Lib.hid (B2.out.trans (b3.mono (by omega)))
  have C3 := Lib.hid (codeAt_below C2.out (b3.mono (by omega)))
  have S3 := src_upd S2 (b3.block b hlt2)
  have hz3 := b3.size
  clear b3 S2 C2 B2 hO
  obtain ⟨t, ht⟩ : ∃ t : ByteArray, t = ⟨(text.netT n N m P).toArray⟩ := ⟨_, rfl⟩
  have hts : t.size ≤ 6000 := by
    have := netT_sz n N m P
    subst ht
    show (text.netT n N m P).toArray.size ≤ 6000
    simpa using this
  rw [← ht]
  clear ht
  go_wp2_with fail
  refine (next_any w3 b b cv len i2 s2 6 S3 C3.out (Nat.le_refl _) (by omega)).mono ?_
  rintro e w4 ⟨v4, i4, s4, rfl, t4, ht4, S4, o4⟩
  have B4 := Lib.hid (B3.out.trans (only_below o4 (by omega)))
  have C4 := Lib.hid (codeAt_below C3.out (only_below o4 (Nat.le_refl _)))
  clear ht4 o4 S3 C3 B3
  by_cases h0 : v4 = 0
  · subst h0
    go_wp2_with fail
    go_ret
    exact ⟨t, rfl, by omega, B4.out⟩
  have h0' : (v4 == 0) = false := by simpa using h0
  by_cases h1 : v4 = 1
  · subst h1
    go_wp2_with fail
    go_ret
    exact ⟨_, rfl, by rw [ByteArray.size_append]; show t.size + 17 ≤ 20000; omega, B4.out⟩
  have h1' : (v4 == 1) = false := by simpa using h1
  clear h0 h1
  go_wp2_with fail
  refine (next_any w4 b b cv len i4 s4 60 S4 C4.out (Nat.le_refl _) (by omega)).mono ?_
  rintro e w5 ⟨v5, i5, s5, rfl, t5, ht5, S5, o5⟩
  have B5 := Lib.hid (B4.out.trans (only_below o5 (by omega)))
  have C5 := Lib.hid (codeAt_below C4.out (only_below o5 (Nat.le_refl _)))
  clear ht5 o5 S4 C4 B4
  by_cases h5 : v5 = 0
  · subst h5
    go_wp2_with fail
    refine (next_any w5 b b cv len i5 s5 2 S5 C5.out (Nat.le_refl _) (by omega)).mono ?_
    rintro e w6 ⟨v6, i6, s6, rfl, t6, ht6, S6, o6⟩
    have B6 := Lib.hid (B5.out.trans (only_below o6 (by omega)))
    have hz6 := o6.size
    have hz5 := B5.out.size
    clear o6 S5 C5 B5
    obtain ⟨j, rfl⟩ := Int.eq_ofNat_of_zero_le t6
    have hj : j < 2 := by omega
    obtain ⟨q, hq⟩ : ∃ q : Nat, q = 4000 + j := ⟨_, rfl⟩
    have hwr : IntKind.i64.wrap (4000 + (j : Int)) = (q : Int) := by rw [IntWalk.i64_in _ (by omega)]; omega
    have mk := make_u8 w6 q (by omega)
    have cv8 := str_u8 w6 q
    have HB8 := Lib.hid (B6.out.trans ((mem.below_new w6 (.cells (zero8 q) 5)).mono (by omega)))
    have hsz8 : (⟨(List.replicate q (0 : UInt8)).toArray⟩ : ByteArray).size ≤ 20000 := by
      show (List.replicate q (0 : UInt8)).toArray.size ≤ 20000
      simp
      omega
    clear hq
    generalize (⟨(List.replicate q (0 : UInt8)).toArray⟩ : ByteArray) = u8 at *
    go_wp2_with fail
    go_ret
    exact ⟨u8, rfl, hsz8, HB8.out⟩
  · have h5' : (v5 == 0) = false := by simpa using h5
    clear h5
    go_wp2_with fail
    refine (damage_any w5 b b cv len i5 s5 t 6000 hts (by omega) S5 C5.out (Nat.le_refl _)).mono ?_
    rintro e w6 ⟨x, i6, s6, rfl, hx, S6, b6⟩
    have B6 := Lib.hid (B5.out.trans (b6.mono (by omega)))
    clear b6
    go_wp2_with fail
    go_ret
    exact ⟨x, rfl, by omega, B6.out⟩
end Go.Proofs.YtbenloeomjdkcaaGreatDoor.draw
