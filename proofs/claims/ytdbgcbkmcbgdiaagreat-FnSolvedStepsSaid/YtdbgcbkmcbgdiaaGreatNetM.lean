/-
  Contracts of the laws' own helpers on networks: marking and holding. Conditions: as each states.
-/
import Derived.Test.YtdbgcbkmcbgdiaaGreatRows
import Derived.Test.YtdbgcbkmcbgdiaaGreatNetE
import Derived.WalkKit
import Derived.ProofKit
import Derived.Outline
import Derived.OwnWalk
import Derived.Lib.Hide
import Derived.Lib.ItoaNum
import Derived.Laws.IdiomStrings
import Derived.Deep.RegionHeld3
namespace Go.Proofs.YtdbgcbkmcbgdiaaGreat.mem
open Go.RowKit
set_option linter.unusedVariables false

theorem conv1 (W : World) (x : Int) (y : UInt8) (hy : (y.toNat : Int) = x) :
    Sem.run Tryz.prog (convert 22 9 (.slice (some ⟨W.heap.size, 0, none⟩) 1 1)) (W.alloc (.cells #[.int .u8 x] 5)) = .ok (.string ⟨#[y]⟩) (W.alloc (.cells #[.int .u8 x] 5)) := by
  refine run_convert_bytes_back _ 22 9 5 _ 1 [y] Tryz.underlying22 Tryz.underlying5 Tryz.underlying9 ?_
  intro j hj
  have : j = 0 := by simpa using hj
  subst this
  have e := heap_alloc_new W (.cells #[.int .u8 x] 5)
  simp only [World.cell?, Addr.add, if_true, e]
  simp [hy]
def digU (n : Nat) : UInt8 := UInt8.ofNat (48 + n)
theorem digit_nat {n : Nat} (h : n < 10) : ((digU n).toNat : Int) = 48 + (n : Int) := by
  unfold digU
  rw [UInt8.toNat_ofNat']
  omega
/-- the text with which slot k is marked -/
def mtx (k : Int) : ByteArray := if k ≤ 0 then ⟨#[109, 48]⟩ else ⟨#[109]⟩ ++ ⟨(Lib.decDigits k.toNat).toArray⟩
theorem ret_str {a b : ByteArray} (h : a = b) : Ending.returned (.string a) = .returned (.string b) := by rw [h]
theorem cat0 (l : List UInt8) (y : UInt8) : (ByteArray.mk #[y] ++ ByteArray.mk l.toArray) = ByteArray.mk (y :: l).toArray := ByteArray.mk_append_mk [y] l

theorem dec_step {q a r : Nat} (h : q = a * 10 + r) (hr : r < 10) (ha : 0 < a) : Lib.decDigits q = Lib.decDigits a ++ [digU r] := by
  have e1 : q / 10 = a := by omega
  have e2 : q % 10 = r := by omega
  rw [Lib.decDigits, dif_neg (by omega), e1, e2]
  rfl
theorem dec_small {q a r : Nat} (h : q = a * 10 + r) (hr : r < 10) (ha : a = 0) : Lib.decDigits q = [digU r] := by
  have e : q = r := by omega
  subst e
  rw [Lib.decDigits_one (by omega)]
  rfl
set_option maxHeartbeats 1000000 in
theorem markText_any (w : World) (k : Nat) (h1 : k ≤ 1000000000000) : Calls Tryz.prog 137 #[.int .i64 k] w fun e w' => e = .returned (.string (mtx k)) ∧ Below w.heap.size w w' := by
  by_cases h0 : k = 0
  · subst h0
    go_enter Tryz.func137, Tryz.ntmps137
    go_wp2_with fail
    go_ret
    exact ⟨rfl, Below.refl _ _⟩
  have hk0 : ¬ ((k : Int) ≤ 0) := by omega
  go_enter Tryz.func137, Tryz.ntmps137
  go_wp2_with fail
  go_loopw [0, 3] (fun kk out wr => ∃ (q : Nat) (l : List UInt8), kk = .int .i64 q ∧ out = .string ⟨l.toArray⟩ ∧ q ≤ 1000000000000 ∧ l.length + q ≤ 1000000000000 ∧ (q = 0 ∧ Lib.decDigits k = l ∨ 0 < q ∧ Lib.decDigits k = Lib.decDigits q ++ l) ∧ Below w.heap.size w wr ∧ w.heap.size ≤ wr.heap.size) (fun kk _ _ => (intOf kk).toNat)
  case atStart => exact ⟨k, [], rfl, rfl, h1, by simpa using h1, .inr ⟨by omega, by simp⟩, Below.refl _ _, Nat.le_refl _⟩
  case round =>
    obtain ⟨q, l, rfl, rfl, hq, hl, hd, hbel, hsz⟩ := hrel
    have HB := Lib.hid hbel
    have HD := Lib.hid hd
    clear hbel hd
    by_cases hlt : 0 < q
    · obtain ⟨a, r, hr, hqa⟩ : ∃ a r, r < 10 ∧ q = a * 10 + r := ⟨q / 10, q % 10, by omega, by omega⟩
      have HQ := Lib.hid hqa
      have q1 : (q : Int) % 10 = (r : Int) := by omega
      have q2 : (q : Int) / 10 = (a : Int) := by omega
      have ha : a ≤ 1000000000000 := by omega
      have q4 : IntKind.u8.wrap (48 + (r : Int)) = 48 + (r : Int) := by
        unfold IntKind.wrap
        simp [IntKind.signed, IntKind.bits]
        omega
      have kc := fun W => conv1 W (48 + (r : Int)) _ (digit_nat (n := r) hr)
      clear hqa
      go_wp2_with fail
      go_roundw
      case rel =>
        refine ⟨a, digU r :: l, rfl, by rw [cat0], ha, by have := HQ.out; simp only [List.length_cons]; omega, ?_, below_alloc HB.out hsz _, by simp; omega⟩
        rcases HD.out with ⟨h0, _⟩ | ⟨_, hd⟩
        · omega
        · by_cases ha0 : a = 0
          · exact .inl ⟨ha0, by rw [hd, dec_small HQ.out hr ha0]; rfl⟩
          · exact .inr ⟨by omega, by rw [hd, dec_step HQ.out hr (by omega), List.append_assoc]; rfl⟩
      case measure => have := HQ.out; simp [intOf]; omega
    · obtain rfl : q = 0 := by omega
      go_wp2_with fail
      go_ret
      refine ⟨ret_str ?_, HB.out⟩
      unfold mtx
      rw [if_neg (by omega)]
      rcases HD.out with ⟨_, hd⟩ | ⟨h0, _⟩
      · rw [← hd]
        rfl
      · omega
-- MARKS
theorem ret_i {k : IntKind} {a b : Int} (h : a = b) : Ending.returned (.int k a) = .returned (.int k b) := by rw [h]
/-- what marking from k on lays -/
def mkNod (k : Nat) (i : Nat) : Nod := ⟨mtx ((k + 3 * i : Nat) : Int), ((k + 3 * i : Nat) : Int) + 1, ((k + 3 * i : Nat) : Int) + 1 + 1⟩
def mkPip (k : Nat) (i : Nat) : Pip := ⟨((k + 5 * i : Nat) : Int), ((k + 5 * i : Nat) : Int) + 1, ((k + 5 * i : Nat) : Int) + 1 + 1, ((k + 5 * i : Nat) : Int) + 1 + 1 + 1, ((k + 5 * i : Nat) : Int) + 1 + 1 + 1 + 1⟩

set_option maxHeartbeats 4000000 in
theorem markNodeS_any (w : World) (v : Value) (n b : Nat) (N : Nat → Nod) (k : Nat) (h : OwnS w v n 3 (nodC N) b) (hn : n ≤ 2000000) (k1 : k ≤ 1000000000) :
    Calls Tryz.prog 81 #[v, .int .i64 k] w fun e w' => e = .returned (.int .i64 (k + 3 * n : Nat)) ∧ OwnS w' v n 3 (nodC (mkNod k)) b ∧ Upd (fun x => n ≠ 0 ∧ x = b) w w' := by
  obtain ⟨p, cap, rfl, q1, q2, hc⟩ := h
  have HC := Lib.hid hc
  clear hc
  go_enter Tryz.func81, Tryz.ntmps81
  go_wp2_with fail
  go_loopw [1, 5] (fun kk i wr => ∃ (i' : Nat) (q : Nat), q = k + 3 * i' ∧ kk = .int .i64 q ∧ i = .int .i64 i' ∧ i' ≤ n ∧ (∃ c, (n = 0 ∨ Rw wr b n 3 c) ∧ ∀ x j, x < i' → j < 3 → c x j = nodC (mkNod k) x j) ∧ Upd (fun x => n ≠ 0 ∧ x = b) w wr) (fun _ i _ => n - (intOf i).toNat)
  case atStart => exact ⟨0, k, by omega, rfl, rfl, Nat.zero_le _, ⟨_, HC.out.imp id (fun x => x.2), fun x j hx => by omega⟩, Upd.refl _ _⟩
  case round =>
    obtain ⟨i, q, hq, rfl, rfl, hi, hrow, hupd⟩ := hrel
    have HQ := Lib.hid hq
    have HR := Lib.hid hrow
    have HU := Lib.hid hupd
    have hq2 : q ≤ 2000000000 := by omega
    clear hrow hupd hq
    by_cases hlt : i < n
    · rcases HC.out with h0 | ⟨rfl, _⟩
      · omega
      obtain ⟨cc, h0 | hcc, hce⟩ := HR.out
      · omega
      have HCE := Lib.hid hce
      have HCC := Lib.hid hcc
      clear hce
      go_wp2_with fail
      refine (markText_any _ q (by omega)).mono ?_
      rintro e w2 ⟨rfl, b2⟩
      have U2 := Lib.hid (HU.out.trans (Upd.of_below b2))
      have r2' := hcc.below b2 hcc.lt
      have hs2 := b2.size
      clear b2
      have r2 := r2'
      have R2 := Lib.hid r2'
      have e0 := r2.cell i 0 hlt (by omega)
      have q0 := r2.free (i * 3)
      have e1 := r2.cell i 1 hlt (by omega)
      have q1 := r2.free (i * 3 + 1)
      have e2 := r2.cell i 2 hlt (by omega)
      have q2 := r2.free (i * 3 + 2)
      rw [Nat.add_zero] at e0
      clear r2 r2' hcc
      go_wp2_with fail
      go_roundw
      case rel =>
        have ef : nodC (mkNod k) i = fun j => nodC (fun _ => (⟨mtx q, (q : Int) + 1, (q : Int) + 1 + 1⟩ : Nod)) 0 j := by
          funext j
          have := HQ.out
          unfold nodC mkNod
          simp only [this]
        have st := R2.out.step3 (d := nodC (mkNod k)) HCE.out hlt
        rw [ef] at st
        refine ⟨i + 1, q + 3, by have := HQ.out; omega, by go_num, by go_num, hlt, st.imp (fun c g => ⟨.inr g.1, g.2⟩), U2.out.trans ((Upd.of_only ((((Only.refl _ _).setCell _ _).setCell _ _).setCell _ _)).mono (fun k _ e => ⟨by omega, e⟩))⟩
      case measure => simp [intOf]; omega
    · obtain rfl : i = n := by omega
      go_wp2_with fail
      go_ret
      refine ⟨ret_i (by have := HQ.out; omega), ?_, HU.out⟩
      refine ⟨p, cap, rfl, q1, q2, ?_⟩
      rcases HC.out with h0 | ⟨e, _⟩
      · exact .inl h0
      · obtain ⟨c, h0 | h1, h2⟩ := HR.out
        · exact .inl h0
        · exact .inr ⟨e, h1.congr h2⟩

set_option maxHeartbeats 4000000 in
theorem markPipeS_any (w : World) (v : Value) (n b : Nat) (N : Nat → Pip) (k : Nat) (h : OwnS w v n 5 (pipC N) b) (hn : n ≤ 2000000) (k1 : k ≤ 1000000000) :
    Calls Tryz.prog 82 #[v, .int .i64 k] w fun e w' => e = .returned (.int .i64 (k + 5 * n : Nat)) ∧ OwnS w' v n 5 (pipC (mkPip k)) b ∧ Upd (fun x => n ≠ 0 ∧ x = b) w w' := by
  obtain ⟨p, cap, rfl, q1, q2, hc⟩ := h
  have HC := Lib.hid hc
  clear hc
  go_enter Tryz.func82, Tryz.ntmps82
  go_wp2_with fail
  go_loopw [1, 5] (fun kk i wr => ∃ (i' : Nat) (q : Nat), q = k + 5 * i' ∧ kk = .int .i64 q ∧ i = .int .i64 i' ∧ i' ≤ n ∧ (∃ c, (n = 0 ∨ Rw wr b n 5 c) ∧ ∀ x j, x < i' → j < 5 → c x j = pipC (mkPip k) x j) ∧ Upd (fun x => n ≠ 0 ∧ x = b) w wr) (fun _ i _ => n - (intOf i).toNat)
  case atStart => exact ⟨0, k, by omega, rfl, rfl, Nat.zero_le _, ⟨_, HC.out.imp id (fun x => x.2), fun x j hx => by omega⟩, Upd.refl _ _⟩
  case round =>
    obtain ⟨i, q, hq, rfl, rfl, hi, hrow, hupd⟩ := hrel
    have HQ := Lib.hid hq
    have HR := Lib.hid hrow
    have HU := Lib.hid hupd
    have hq2 : q ≤ 2000000000 := by omega
    clear hrow hupd hq
    by_cases hlt : i < n
    · rcases HC.out with h0 | ⟨rfl, _⟩
      · omega
      obtain ⟨cc, h0 | hcc, hce⟩ := HR.out
      · omega
      have HCE := Lib.hid hce
      have HCC := Lib.hid hcc
      clear hce
      obtain ⟨w2, hw2⟩ : ∃ w2, w2 = wr := ⟨_, rfl⟩
      have hs2 : wr.heap.size ≤ w2.heap.size := by rw [hw2]; exact Nat.le_refl _
      have U2 : Hid (Upd (fun x => n ≠ 0 ∧ x = b) w w2) := by rw [hw2]; exact HU
      have r2' : Rw w2 b n 5 cc := by rw [hw2]; exact hcc
      subst hw2
      have r2 := r2'
      have R2 := Lib.hid r2'
      have e0 := r2.cell i 0 hlt (by omega)
      have q0 := r2.free (i * 5)
      have e1 := r2.cell i 1 hlt (by omega)
      have q1 := r2.free (i * 5 + 1)
      have e2 := r2.cell i 2 hlt (by omega)
      have q2 := r2.free (i * 5 + 2)
      have e3 := r2.cell i 3 hlt (by omega)
      have q3 := r2.free (i * 5 + 3)
      have e4 := r2.cell i 4 hlt (by omega)
      have q4 := r2.free (i * 5 + 4)
      rw [Nat.add_zero] at e0
      clear r2 r2' hcc
      go_wp2_with fail
      go_roundw
      case rel =>
        have ef : pipC (mkPip k) i = fun j => pipC (fun _ => (⟨(q : Int), (q : Int) + 1, (q : Int) + 1 + 1, (q : Int) + 1 + 1 + 1, (q : Int) + 1 + 1 + 1 + 1⟩ : Pip)) 0 j := by
          funext j
          have := HQ.out
          unfold pipC mkPip
          simp only [this]
        have st := R2.out.step5 (d := pipC (mkPip k)) HCE.out hlt
        rw [ef] at st
        refine ⟨i + 1, q + 5, by have := HQ.out; omega, by go_num, by go_num, hlt, st.imp (fun c g => ⟨.inr g.1, g.2⟩), U2.out.trans ((Upd.of_only ((((((Only.refl _ _).setCell _ _).setCell _ _).setCell _ _).setCell _ _).setCell _ _)).mono (fun k _ e => ⟨by omega, e⟩))⟩
      case measure => simp [intOf]; omega
    · obtain rfl : i = n := by omega
      go_wp2_with fail
      go_ret
      refine ⟨ret_i (by have := HQ.out; omega), ?_, HU.out⟩
      refine ⟨p, cap, rfl, q1, q2, ?_⟩
      rcases HC.out with h0 | ⟨e, _⟩
      · exact .inl h0
      · obtain ⟨c, h0 | h1, h2⟩ := HR.out
        · exact .inl h0
        · exact .inr ⟨e, h1.congr h2⟩
end Go.Proofs.YtdbgcbkmcbgdiaaGreat.mem
