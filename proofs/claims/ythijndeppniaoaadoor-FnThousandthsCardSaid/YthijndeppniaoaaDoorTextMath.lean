/-
  Plain facts on texts of numbers: digits, their value, the text of a number of thousandths and how it is read back. No condition.
-/
import Derived.Test.YthijndeppniaoaaDoorText2
import Derived.Lib.ParseIntB
import Derived.Lib.IndexMore
namespace Go.Proofs.YthijndeppniaoaaDoor.text
open Go.RowKit
set_option linter.unusedVariables false

def isDig (c : UInt8) : Bool := decide (48 ≤ c.toNat) && decide (c.toNat ≤ 57)
theorem isDig_iff {c : UInt8} : isDig c = true ↔ 48 ≤ c.toNat ∧ c.toNat ≤ 57 := by simp [isDig]
def val (acc : Nat) (l : List UInt8) : Nat := l.foldl (fun a c => 10 * a + (c.toNat - 48)) acc
theorem val_append (acc : Nat) (l m : List UInt8) : val acc (l ++ m) = val (val acc l) m := by simp [val]
theorem val_one (acc : Nat) (c : UInt8) : val acc [c] = 10 * acc + (c.toNat - 48) := rfl
theorem digU_nat {r : Nat} (h : r < 10) : (digU r).toNat = 48 + r := by
  unfold digU; rw [UInt8.toNat_ofNat']; omega

theorem dec_step {n : Nat} (h : ¬ n < 10) : Lib.decDigits n = Lib.decDigits (n / 10) ++ [digU (n % 10)] := by
  rw [Lib.decDigits, dif_neg h]; rfl
theorem dec_base {n : Nat} (h : n < 10) : Lib.decDigits n = [digU n] := by rw [Lib.decDigits_one h]; rfl

theorem dec_facts (k : Nat) : ∀ n, n ≤ k → (∀ c ∈ Lib.decDigits n, isDig c = true) ∧ val 0 (Lib.decDigits n) = n := by
  induction k with
  | zero =>
    intro n hn
    have : n < 10 := by omega
    rw [dec_base this]
    have := digU_nat this
    constructor
    · intro c hc
      obtain rfl : c = digU n := by simpa using hc
      rw [isDig_iff]; omega
    · rw [val_one]; omega
  | succ k ih =>
    intro n hn
    by_cases h : n < 10
    · rw [dec_base h]
      have := digU_nat h
      constructor
      · intro c hc
        obtain rfl : c = digU n := by simpa using hc
        rw [isDig_iff]; omega
      · rw [val_one]; omega
    · rw [dec_step h]
      obtain ⟨i1, i2⟩ := ih (n / 10) (by omega)
      have hd := digU_nat (r := n % 10) (by omega)
      constructor
      · intro c hc
        rcases List.mem_append.1 hc with h1 | h1
        · exact i1 c h1
        · obtain rfl : c = digU (n % 10) := by simpa using h1
          rw [isDig_iff]; omega
      · rw [val_append, i2, val_one]; omega
theorem dec_dig (n : Nat) : ∀ c ∈ Lib.decDigits n, isDig c = true := (dec_facts n n (Nat.le_refl _)).1
theorem dec_val (n : Nat) : val 0 (Lib.decDigits n) = n := (dec_facts n n (Nat.le_refl _)).2
theorem dec_inj {m n : Nat} (h : Lib.decDigits m = Lib.decDigits n) : m = n := by rw [← dec_val m, h, dec_val]
theorem dec_pos (n : Nat) : 1 ≤ (Lib.decDigits n).length := by
  rw [Lib.decDigits_length]
  by_cases h : n < 10
  · rw [Lib.nDigits_small h]; omega
  · rw [Lib.nDigits_big h]; omega
theorem val_le (acc : Nat) (l : List UInt8) : acc ≤ val acc l := by
  induction l generalizing acc with
  | nil => exact Nat.le_refl _
  | cons c l ih => exact Nat.le_trans (by omega) (ih (10 * acc + (c.toNat - 48)))

theorem parse_dig (M : Nat) (hM : M ≤ 18446744073709551615) (l : List UInt8) : ∀ acc, (∀ c ∈ l, isDig c = true) → val acc l ≤ M → Lib.parseUintM M acc l = .ok (val acc l) := by
  induction l with
  | nil => intro acc _ _; rfl
  | cons c l ih =>
    intro acc hd hv
    have hc := isDig_iff.1 (hd c (List.mem_cons_self ..))
    have e : val acc (c :: l) = val (acc * 10 + (c.toNat - 48)) l := by
      show val (10 * acc + (c.toNat - 48)) l = _
      rw [Nat.mul_comm]
    rw [e] at hv ⊢
    have h1 := val_le (acc * 10 + (c.toNat - 48)) l
    unfold Lib.parseUintM
    rw [if_pos hc, if_neg (by omega), if_neg (by omega)]
    exact ih _ (fun x hx => hd x (List.mem_cons_of_mem _ hx)) hv

/-- the parts of a text -/
def sgn (n : Int) : List UInt8 := if n < 0 then [45] else []
def frac (n : Int) : List UInt8 := (Lib.decDigits (1000 + n.natAbs % 1000)).tail
theorem thText_eq (n : Int) : thText n = sgn n ++ Lib.decDigits (n.natAbs / 1000) ++ [46] ++ frac n := rfl
theorem four (r : Nat) (h : r < 1000) : ∃ a b c, Lib.decDigits (1000 + r) = [49, a, b, c] := by
  have h1 := dec_step (n := 1000 + r) (by omega)
  have h2 := dec_step (n := (1000 + r) / 10) (by omega)
  have h3 := dec_step (n := (1000 + r) / 10 / 10) (by omega)
  have h4 := dec_base (n := (1000 + r) / 10 / 10 / 10) (by omega)
  have e : (1000 + r) / 10 / 10 / 10 = 1 := by omega
  rw [e] at h4
  rw [h1, h2, h3, e, h4]
  exact ⟨_, _, _, rfl⟩
theorem frac_facts (n : Int) : (frac n).length = 3 ∧ 49 :: frac n = Lib.decDigits (1000 + n.natAbs % 1000) ∧ (∀ c ∈ frac n, isDig c = true) ∧ ∀ acc, val acc (frac n) = 1000 * acc + n.natAbs % 1000 := by
  obtain ⟨a, b, c, h⟩ := four (n.natAbs % 1000) (by omega)
  have hv := dec_val (1000 + n.natAbs % 1000)
  have hd := dec_dig (1000 + n.natAbs % 1000)
  unfold frac
  rw [h] at hv hd ⊢
  refine ⟨rfl, rfl, fun x hx => hd x (List.mem_cons_of_mem _ hx), fun acc => ?_⟩
  simp only [val, List.foldl_cons, List.foldl_nil, List.tail_cons] at hv ⊢
  have : (49 : UInt8).toNat = 49 := rfl
  omega
theorem noDot {l : List UInt8} (h : ∀ c ∈ l, isDig c = true ∨ c = 45) : ∀ c ∈ l, c ≠ 46 := by
  intro c hc e
  subst e
  rcases h 46 hc with h1 | h1
  · exact absurd h1 (by decide)
  · exact absurd h1 (by decide)
theorem index_dot : ∀ (l r : List UInt8), (∀ c ∈ l, c ≠ 46) → Lib.index (l ++ 46 :: r) [46] = l.length
  | [], r, _ => by simp [Lib.index]
  | c :: l, r, h => by
    have ih := index_dot l r (fun x hx => h x (List.mem_cons_of_mem _ hx))
    have hc : c ≠ 46 := h c (List.mem_cons_self ..)
    have hp : (List.isPrefixOf [46] (c :: (l ++ 46 :: r))) = false := by
      simp [List.isPrefixOf]
      exact fun e => hc e.symm
    show (if List.isPrefixOf [46] (c :: (l ++ 46 :: r)) then (0 : Int) else if Lib.index (l ++ 46 :: r) [46] == -1 then -1 else Lib.index (l ++ 46 :: r) [46] + 1) = _
    rw [hp, ih]
    simp
theorem cut_dot (l r : List UInt8) (h : ∀ c ∈ l, c ≠ 46) : Lib.cut (l ++ 46 :: r) [46] = (l, r, true) := by
  unfold Lib.cut
  rw [index_dot l r h, if_pos (by omega)]
  simp

def Big (n : Int) : Prop := -1000000000000000000 ≤ n ∧ n ≤ 1000000000000000000
theorem thB_of_big {n : Int} (h : Big n) : thTextB n = thText n := by
  unfold thTextB; rw [if_pos (num.inR_iff.2 h)]
theorem big_of_thB {n : Int} {s : List UInt8} (h : thTextB n = s) (hs : s ≠ []) : Big n ∧ thText n = s := by
  unfold thTextB at h
  split at h
  · rename_i hr; exact ⟨num.inR_iff.1 hr, h⟩
  · exact absurd h.symm hs
theorem whole_dig (n : Int) : ∀ c ∈ sgn n ++ Lib.decDigits (n.natAbs / 1000), isDig c = true ∨ c = 45 := by
  intro c hc
  rcases List.mem_append.1 hc with h | h
  · unfold sgn at h
    split at h
    · right; simpa using h
    · simp at h
  · exact .inl (dec_dig _ c h)
theorem cut_th (n : Int) : Lib.cut (thText n) [46] = (sgn n ++ Lib.decDigits (n.natAbs / 1000), frac n, true) := by
  rw [thText_eq, List.append_assoc]
  exact cut_dot _ _ (noDot (whole_dig n))
theorem digits_th (n : Int) : (∀ c ∈ Lib.decDigits (n.natAbs / 1000) ++ frac n, isDig c = true) ∧ val 0 (Lib.decDigits (n.natAbs / 1000) ++ frac n) = n.natAbs := by
  obtain ⟨_, _, h3, h4⟩ := frac_facts n
  constructor
  · intro c hc
    rcases List.mem_append.1 hc with h | h
    · exact dec_dig _ c h
    · exact h3 c h
  · rw [val_append, dec_val, h4]; omega
theorem parse_th (n : Int) (h : Big n) : Lib.parseIntB 64 (sgn n ++ Lib.decDigits (n.natAbs / 1000) ++ frac n) = .ok n := by
  unfold Big at h
  obtain ⟨d1, d2⟩ := digits_th n
  have hp := parse_dig 18446744073709551615 (Nat.le_refl _) _ 0 d1 (by omega)
  rw [d2] at hp
  have hne : Lib.decDigits (n.natAbs / 1000) ++ frac n ≠ [] := by
    have := dec_pos (n.natAbs / 1000)
    intro e
    have e2 := congrArg List.length e
    rw [List.length_append, List.length_nil] at e2
    omega
  have hu : Lib.parseUintB 64 (Lib.decDigits (n.natAbs / 1000) ++ frac n) = .ok n.natAbs := by
    unfold Lib.parseUintB
    rw [if_neg hne]
    exact hp
  rw [List.append_assoc]
  generalize hl : Lib.decDigits (n.natAbs / 1000) ++ frac n = l at *
  by_cases hn : n < 0
  · unfold sgn
    rw [if_pos hn]
    show (match Lib.parseUintB 64 (if (45 : UInt8).toNat = 43 ∨ (45 : UInt8).toNat = 45 then l else [45] ++ l) with
      | Lib.NumEnd.syntax => Lib.NumEnd.syntax
      | .range => .range
      | .ok u => if ¬ ((45 : UInt8).toNat = 45) ∧ 2 ^ (64 - 1) ≤ u then Lib.NumEnd.range else if ((45 : UInt8).toNat = 45) ∧ 2 ^ (64 - 1) < u then .range else .ok (if (45 : UInt8).toNat = 45 then -(u : Int) else u)) = _
    rw [if_pos (by decide), hu]
    show (if ¬ ((45 : UInt8).toNat = 45) ∧ 2 ^ (64 - 1) ≤ n.natAbs then Lib.NumEnd.range else if ((45 : UInt8).toNat = 45) ∧ 2 ^ (64 - 1) < n.natAbs then .range else .ok (if (45 : UInt8).toNat = 45 then -(n.natAbs : Int) else n.natAbs)) = _
    rw [if_neg (by simp), if_neg (by omega), if_pos (by decide)]
    congr 1
    omega
  · unfold sgn
    rw [if_neg hn, List.nil_append]
    cases l with
    | nil => exact absurd rfl hne
    | cons c r =>
      have hc := isDig_iff.1 (d1 c (List.mem_cons_self ..))
      show (match Lib.parseUintB 64 (if c.toNat = 43 ∨ c.toNat = 45 then r else c :: r) with
        | Lib.NumEnd.syntax => Lib.NumEnd.syntax
        | .range => .range
        | .ok u => if ¬ (c.toNat = 45) ∧ 2 ^ (64 - 1) ≤ u then Lib.NumEnd.range else if (c.toNat = 45) ∧ 2 ^ (64 - 1) < u then .range else .ok (if c.toNat = 45 then -(u : Int) else u)) = _
      rw [if_neg (by omega), hu]
      show (if ¬ (c.toNat = 45) ∧ 2 ^ (64 - 1) ≤ n.natAbs then Lib.NumEnd.range else if (c.toNat = 45) ∧ 2 ^ (64 - 1) < n.natAbs then .range else .ok (if c.toNat = 45 then -(n.natAbs : Int) else n.natAbs)) = _
      rw [if_neg (by omega), if_neg (by omega), if_neg (by omega)]
      congr 1
      omega
theorem th_inj {m n : Int} (hm : Big m) (hn : Big n) (h : thText m = thText n) : m = n := by
  have e1 := parse_th m hm
  have e2 := parse_th n hn
  have c1 := cut_th m
  have c2 := cut_th n
  rw [h, c2] at c1
  simp only [Prod.mk.injEq] at c1
  rw [← c1.1, ← c1.2.1, e2] at e1
  injection e1 with e
  exact e.symm
/-- what a reading is: the number whose text it is, if there is one -/
def ReadsAs (s : List UInt8) (v : Int) (b : Bool) : Prop :=
  (b = true ∧ Big v ∧ thText v = s) ∨ (b = false ∧ v = 0 ∧ ∀ n, Big n → thText n ≠ s)
theorem reads_uniq {s : List UInt8} {v v' : Int} {b b' : Bool} (h : ReadsAs s v b) (h' : ReadsAs s v' b') : v = v' ∧ b = b' := by
  rcases h with ⟨rfl, h1, h2⟩ | ⟨rfl, rfl, h2⟩ <;> rcases h' with ⟨rfl, g1, g2⟩ | ⟨rfl, rfl, g2⟩
  · exact ⟨th_inj h1 g1 (h2.trans g2.symm), rfl⟩
  · exact absurd h2 (g2 v h1)
  · exact absurd g2 (h2 v' g1)
  · exact ⟨rfl, rfl⟩

def ReadPost (w : World) (s : List UInt8) (e : Ending) (w' : World) : Prop :=
  ∃ v b, e = .returned (.tuple #[.int .i64 v, .bool b]) ∧ ReadsAs s v b ∧ Below w.heap.size w w'
end Go.Proofs.YthijndeppniaoaaDoor.text
