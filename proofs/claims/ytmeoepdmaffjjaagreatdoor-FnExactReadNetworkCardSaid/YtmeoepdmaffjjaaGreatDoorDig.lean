/-
  Decimal digits: what they spell, and that the library reads them back. No condition.
-/
import Derived.Test.YtmeoepdmaffjjaaGreatDoorSp
import Derived.Lib.ParseIntB
import Derived.Lib.ItoaNum
namespace Go.Proofs.YtmeoepdmaffjjaaGreatDoor.text
open Go.RowKit Go.Proofs.YtmeoepdmaffjjaaGreatDoor.mem
set_option linter.unusedVariables false

def isDig (c : UInt8) : Bool := decide (48 ≤ c.toNat) && decide (c.toNat ≤ 57)
theorem isDig_iff {c : UInt8} : isDig c = true ↔ 48 ≤ c.toNat ∧ c.toNat ≤ 57 := by simp [isDig]
def val (acc : Nat) (l : List UInt8) : Nat := l.foldl (fun a c => 10 * a + (c.toNat - 48)) acc
theorem val_append (acc : Nat) (l m : List UInt8) : val acc (l ++ m) = val (val acc l) m := by simp [val]
theorem val_one (acc : Nat) (c : UInt8) : val acc [c] = 10 * acc + (c.toNat - 48) := rfl
theorem digU_nat {r : Nat} (h : r < 10) : (digU r).toNat = 48 + r := by
  unfold digU; rw [UInt8.toNat_ofNat']; omega

theorem dec_step {n : Nat} (h : ¬ n < 10) : Lib.decDigits n = Lib.decDigits (n / 10) ++ [digU (n % 10)] := by
  rw [Lib.decDigits, dif_neg h]; rfl
theorem dec_base {n : Nat} (h : n < 10) : Lib.decDigits n = [digU n] := by rw [Lib.decDigits_one h]; rfl

theorem dec_facts (k : Nat) : ∀ n, n ≤ k → (∀ c ∈ Lib.decDigits n, isDig c = true) ∧ val 0 (Lib.decDigits n) = n := by
  induction k with
  | zero =>
    intro n hn
    have : n < 10 := by omega
    rw [dec_base this]
    have := digU_nat this
    constructor
    · intro c hc
      obtain rfl : c = digU n := by simpa using hc
      rw [isDig_iff]; omega
    · rw [val_one]; omega
  | succ k ih =>
    intro n hn
    by_cases h : n < 10
    · rw [dec_base h]
      have := digU_nat h
      constructor
      · intro c hc
        obtain rfl : c = digU n := by simpa using hc
        rw [isDig_iff]; omega
      · rw [val_one]; omega
    · rw [dec_step h]
      obtain ⟨i1, i2⟩ := ih (n / 10) (by omega)
      have hd := digU_nat (r := n % 10) (by omega)
      constructor
      · intro c hc
        rcases List.mem_append.1 hc with h1 | h1
        · exact i1 c h1
        · obtain rfl : c = digU (n % 10) := by simpa using h1
          rw [isDig_iff]; omega
      · rw [val_append, i2, val_one]; omega
theorem dec_dig (n : Nat) : ∀ c ∈ Lib.decDigits n, isDig c = true := (dec_facts n n (Nat.le_refl _)).1
theorem dec_val (n : Nat) : val 0 (Lib.decDigits n) = n := (dec_facts n n (Nat.le_refl _)).2
theorem dec_inj {m n : Nat} (h : Lib.decDigits m = Lib.decDigits n) : m = n := by rw [← dec_val m, h, dec_val]
theorem dec_pos (n : Nat) : 1 ≤ (Lib.decDigits n).length := by
  rw [Lib.decDigits_length]
  by_cases h : n < 10
  · rw [Lib.nDigits_small h]; omega
  · rw [Lib.nDigits_big h]; omega
theorem val_le (acc : Nat) (l : List UInt8) : acc ≤ val acc l := by
  induction l generalizing acc with
  | nil => exact Nat.le_refl _
  | cons c l ih => exact Nat.le_trans (by omega) (ih (10 * acc + (c.toNat - 48)))

theorem parse_dig (M : Nat) (hM : M ≤ 18446744073709551615) (l : List UInt8) : ∀ acc, (∀ c ∈ l, isDig c = true) → val acc l ≤ M → Lib.parseUintM M acc l = .ok (val acc l) := by
  induction l with
  | nil => intro acc _ _; rfl
  | cons c l ih =>
    intro acc hd hv
    have hc := isDig_iff.1 (hd c (List.mem_cons_self ..))
    have e : val acc (c :: l) = val (acc * 10 + (c.toNat - 48)) l := by
      show val (10 * acc + (c.toNat - 48)) l = _
      rw [Nat.mul_comm]
    rw [e] at hv ⊢
    have h1 := val_le (acc * 10 + (c.toNat - 48)) l
    unfold Lib.parseUintM
    rw [if_pos hc, if_neg (by omega), if_neg (by omega)]
    exact ih _ (fun x hx => hd x (List.mem_cons_of_mem _ hx)) hv

/-- the parts of a text -/
theorem dec_noblank (n : Nat) : (32 : UInt8) ∉ Lib.decDigits n := fun h => by
  have := isDig_iff.1 (dec_dig n 32 h)
  simp at this
theorem name_noblank {s : ByteArray} (h : nameB s = true) : (32 : UInt8) ∉ s.data.toList := fun e => by
  unfold nameB at h
  simp only [Bool.and_eq_true, List.all_eq_true] at h
  have := chr_iff.1 (h.2 32 e)
  simp at this
theorem parse_dec (n : Nat) (h : n ≤ 1000000000) : Lib.parseIntB 64 (Lib.decDigits n) = .ok (n : Int) := by
  have hp := parse_dig 18446744073709551615 (Nat.le_refl _) (Lib.decDigits n) 0 (dec_dig n) (by rw [dec_val]; omega)
  rw [dec_val] at hp
  have hne := dec_pos n
  have hd := dec_dig n
  have hu : Lib.parseUintB 64 (Lib.decDigits n) = .ok n := by
    unfold Lib.parseUintB
    rw [if_neg (by intro e; rw [e] at hne; simp at hne)]
    exact hp
  generalize Lib.decDigits n = l at *
  cases l with
  | nil => simp at hne
  | cons c r =>
    have hc := isDig_iff.1 (hd c (List.mem_cons_self ..))
    unfold Lib.parseIntB
    dsimp only
    rw [if_neg (by omega), hu]
    dsimp only
    rw [if_neg (by omega : ¬ (¬ c.toNat = 45 ∧ 2 ^ (64 - 1) ≤ n)), if_neg (by omega : ¬ (c.toNat = 45 ∧ 2 ^ (64 - 1) < n)), if_neg (by omega : ¬ c.toNat = 45)]
/-- l is the text of the int64 x -/
def NumOK (l : List UInt8) (x : Int) : Prop := Lib.parseIntB 64 l = .ok x ∧ Lib.itoa x = l
theorem itoa_nat {x : Int} (h : 0 ≤ x) : Lib.itoa x = Lib.decDigits x.toNat := by
  obtain ⟨n, rfl⟩ := Int.eq_ofNat_of_zero_le h
  unfold Lib.itoa
  rw [if_neg (by omega)]
theorem numOK_dec {x : Int} (h0 : 0 ≤ x) (h1 : x ≤ 1000000000) : NumOK (Lib.decDigits x.toNat) x := by
  obtain ⟨n, rfl⟩ := Int.eq_ofNat_of_zero_le h0
  exact ⟨parse_dec n (by omega), itoa_nat h0⟩
def wNode : List UInt8 := [110, 111, 100, 101]
theorem nodeL_cat (q : Nod) : nodeL q = wNode ++ 32 :: (q.s.data.toList ++ 32 :: (Lib.decDigits q.lo.toNat ++ 32 :: Lib.decDigits q.hi.toNat)) := by
  unfold nodeL wNode
  simp [numsL]
theorem sp_node {q : Nod} (h : nodB q = true) (k : Nat) : sp (k + 3) (nodeL q) = [wNode, q.s.data.toList, Lib.decDigits q.lo.toNat, Lib.decDigits q.hi.toNat] := by
  have hn : nameB q.s = true := by
    unfold nodB at h
    simp only [Bool.and_eq_true] at h
    exact h.1.1.1
  rw [nodeL_cat, sp_one (by unfold wNode; decide), sp_one (name_noblank hn), sp_one (dec_noblank _), sp_end (dec_noblank _)]
theorem sp_cat4 {k : Nat} {s a b c d : List UInt8} (h : sp k s = [a, b, c, d]) : s = a ++ 32 :: (b ++ 32 :: (c ++ 32 :: d)) := by
  have := sp_join k s
  rw [h] at this
  rw [← this]
  simp [Lib.join, List.intercalate, List.intersperse]
/-- the one node whose line the text is -/
theorem node_uniq {q r : Nod} (hq : nodB q = true) (hr : nodB r = true) (h : nodeL q = nodeL r) : q = r := by
  have e1 := sp_node hq 0
  have e2 := sp_node hr 0
  rw [h, e2] at e1
  simp only [List.cons.injEq, and_true, true_and] at e1
  obtain ⟨h1, h2, h3⟩ := e1
  obtain ⟨a1, a2, a3⟩ := nod_bd hq
  obtain ⟨b1, b2, b3⟩ := nod_bd hr
  have k2 := dec_inj h2
  have k3 := dec_inj h3
  obtain ⟨s, lo, hi⟩ := q
  obtain ⟨s', lo', hi'⟩ := r
  simp only at h1 k2 k3 a2 a3 b2 b3
  have es : s' = s := by
    obtain ⟨⟨x⟩⟩ := s
    obtain ⟨⟨y⟩⟩ := s'
    simp only at h1
    rw [h1]
  rw [es, show lo = lo' by omega, show hi = hi' by omega]
end Go.Proofs.YtmeoepdmaffjjaaGreatDoor.text
