/-
  Contracts of the texts of numbers in the model: l01Dec writes a number of at least 0 in decimal. Condition: the number is within int64.
-/
import Derived.Test.YtdbgcbkmcbgdiaaDoorRows
import Derived.WalkKit
import Derived.ProofKit
import Derived.Lib.Hide
import Derived.Lib.ItoaNum
import Derived.Deep.RegionWith
import Derived.Below
import Derived.Laws.IdiomStrings
namespace Go.Proofs.YtdbgcbkmcbgdiaaDoor.text
open Go.RowKit
set_option linter.unusedVariables false

def StrPost (w : World) (l : List UInt8) (e : Ending) (w' : World) : Prop := e = .returned (.string ⟨l.toArray⟩) ∧ Below w.heap.size w w'

theorem conv1 (W : World) (x : Int) (y : UInt8) (hy : (y.toNat : Int) = x) :
    Sem.run Tryd.prog (convert 56 9 (.slice (some ⟨W.heap.size, 0, none⟩) 1 1)) (W.alloc (.cells #[.int .u8 x] 5)) = .ok (.string ⟨#[y]⟩) (W.alloc (.cells #[.int .u8 x] 5)) := by
  refine run_convert_bytes_back _ 56 9 5 _ 1 [y] Tryd.underlying56 Tryd.underlying5 Tryd.underlying9 ?_
  intro j hj
  have : j = 0 := by simpa using hj
  subst this
  have e := heap_alloc_new W (.cells #[.int .u8 x] 5)
  simp only [World.cell?, Addr.add, if_true, e]
  simp [hy]
theorem conv1d (W : World) (x : Int) (y : UInt8) (hy : (y.toNat : Int) = x) :
    Sem.run Tryd.prog (convert 56 9 (.slice (some ⟨W.heap.size, 0, none⟩) 1 1)) (W.alloc (.cells #[.int .u8 x] 5)).drew = .ok (.string ⟨#[y]⟩) (W.alloc (.cells #[.int .u8 x] 5)).drew := conv1 W.drew x y hy

theorem conv_at (W : World) (g : Nat) (x : Int) (y : UInt8) (hy : (y.toNat : Int) = x) (hc : W.cell? ⟨g, 0, none⟩ = some (.int .u8 x)) :
    Sem.run Tryd.prog (convert 56 9 (.slice (some ⟨g, 0, none⟩) 1 1)) W = .ok (.string ⟨#[y]⟩) W := by
  refine run_convert_bytes_back _ 56 9 5 _ 1 [y] Tryd.underlying56 Tryd.underlying5 Tryd.underlying9 ?_
  intro j hj
  have : j = 0 := by simpa using hj
  subst this
  simp only [Addr.add, if_true, hc]
  simp [hy]
theorem below_new_cell {w w1 : World} {v : Value} {t : TypeId} (hb : Below (w.alloc (.cells #[v] t)).drew.heap.size (w.alloc (.cells #[v] t)).drew w1) : w1.cell? ⟨w.heap.size, 0, none⟩ = some v := by
  have e := hb.block w.heap.size (by simp [World.drew])
  have e2 := heap_alloc_new w (.cells #[v] t)
  have e3 : w1.heap[w.heap.size]? = some (.cells #[v] t) := e.trans e2
  simp [World.cell?, e3]

theorem below_b {w w1 : World} {o : Obj} (hb : Below (w.alloc o).drew.heap.size (w.alloc o).drew w1) : Below w.heap.size w w1 :=
  (((Below.refl _ w).alloc (Nat.le_refl _) o).drew).trans (hb.mono (by simp [World.drew]))
theorem below_a {w w1 : World} (hb : Below w.drew.heap.size w.drew w1) : Below w.heap.size w w1 := ⟨hb.os, hb.tape, hb.output, hb.size, hb.block⟩
theorem ret_str {a b : ByteArray} (h : a = b) : Ending.returned (.string a) = .returned (.string b) := by rw [h]
theorem cat1 (l : List UInt8) (y : UInt8) : (ByteArray.mk l.toArray ++ ByteArray.mk #[y]) = ByteArray.mk (l ++ [y]).toArray := ByteArray.mk_append_mk l [y]

/-- a digit's byte -/
def digU (n : Nat) : UInt8 := UInt8.ofNat (48 + n)
theorem digit_nat {n : Nat} (h : n < 10) : ((digU n).toNat : Int) = 48 + (n : Int) := by
  unfold digU
  rw [UInt8.toNat_ofNat']
  omega
theorem nDigits_le : ∀ (k u : Nat), u < 10 ^ (k + 1) → Lib.nDigits u ≤ k + 1
  | 0, u, h => by rw [Lib.nDigits_small (by simpa using h)]; omega
  | k + 1, u, h => by
    by_cases hu : u < 10
    · rw [Lib.nDigits_small hu]; omega
    · rw [Lib.nDigits_big hu]
      have := nDigits_le k (u / 10) (by rw [Nat.pow_succ] at h; omega)
      omega
theorem dec_length (u : Nat) (h : u ≤ 9223372036854775807) : (Lib.decDigits u).length ≤ 19 := by
  rw [Lib.decDigits_length]
  exact nDigits_le 18 u (by omega)
set_option maxRecDepth 100000 in
set_option maxHeartbeats 1000000 in
theorem dec_any (k : Nat) : ∀ (n : Nat) (w : World), n ≤ k → n ≤ 9223372036854775807 → Calls Tryd.prog 30 #[.int .i64 n] w (StrPost w (Lib.decDigits n)) := by
  induction k with
  | zero =>
    intro n w h1 h2
    have hn : (n : Int) < 10 := by omega
    have kc := fun W => conv1 W (48 + (n : Int)) _ (digit_nat (n := n) (by omega))
    go_enter Tryd.func30, Tryd.ntmps30
    go_wp2_with fail
    go_ret
    exact ⟨by rw [Lib.decDigits_one (by omega)]; rfl, (Below.refl _ _).alloc (Nat.le_refl _) _⟩
  | succ k ih =>
    intro n w h1 h2
    by_cases hn : (n : Int) < 10
    · have kc := fun W => conv1 W (48 + (n : Int)) _ (digit_nat (n := n) (by omega))
      go_enter Tryd.func30, Tryd.ntmps30
      go_wp2_with fail
      go_ret
      exact ⟨by rw [Lib.decDigits_one (by omega)]; rfl, (Below.refl _ _).alloc (Nat.le_refl _) _⟩
    · have IH := Lib.hid ih
      clear ih
      obtain ⟨q, hq⟩ : ∃ q : Nat, q = n / 10 := ⟨_, rfl⟩
      obtain ⟨r, hr⟩ : ∃ r : Nat, r = n % 10 := ⟨_, rfl⟩
      have hd : Hid (Lib.decDigits n = Lib.decDigits q ++ [digU r]) := by
        show _ = _
        rw [Lib.decDigits, dif_neg (by omega), hq, hr]; rfl
      have hr10 : r < 10 := by omega
      have hqk : q ≤ k := by omega
      have hq2 : q ≤ 9223372036854775807 := by omega
      have kc := fun W => conv1 W (48 + (r : Int)) _ (digit_nat hr10)
      have kcd := fun W => conv1d W (48 + (r : Int)) _ (digit_nat hr10)
      have q1 : IntKind.i64.wrap ((n : Int) / 10) = (q : Int) := by rw [IntWalk.i64_in _ (by omega)]; omega
      have q2 : (n : Int).tmod 10 = (r : Int) := by rw [Int.tmod_eq_emod_of_nonneg (by omega)]; omega
      have q3 : IntKind.i64.wrap (48 + (r : Int)) = 48 + (r : Int) := IntWalk.i64_in _ (by omega)
      have q4 : IntKind.u8.wrap (48 + (r : Int)) = 48 + (r : Int) := by
        unfold IntKind.wrap
        simp [IntKind.signed, IntKind.bits]
        omega
      have hlen := dec_length q hq2
      clear hq hr
      go_enter Tryd.func30, Tryd.ntmps30
      go_wp2_with fail
      go_region_with (go_at_call 30; refine (IH.out q _ hqk hq2).mono ?_; rintro e w1 ⟨rfl, hb1⟩; (first | have kx := conv_at w1 w.heap.size _ _ (digit_nat hr10) (below_new_cell hb1) | skip); (first | have hB : Below w.heap.size w w1 := below_b hb1 | have hB : Below w.heap.size w w1 := below_a hb1); clear hb1)
      all_goals go_wp2
      all_goals go_ret
      all_goals first | exact ⟨ret_str (by rw [hd.out, ← cat1]), by assumption⟩ | exact ⟨ret_str (by rw [hd.out, ← cat1]), Below.alloc (by assumption) (Below.size (by assumption)) _⟩
end Go.Proofs.YtdbgcbkmcbgdiaaDoor.text
