/-
  Several texts in one: Sp, Dig, Pa, Pb, Pc, Pd, Pg, SpN.
-/
import Derived.Test.YtbenloeomjdkcaaGreatDoorTxA
import Derived.Lib.Split
import Derived.Lib.IndexLaws
import Derived.Lib.IndexBytes
import Derived.Lib.Join
import Derived.Lib.ParseIntB
import Derived.Lib.ItoaNum
import Derived.Test.YtbenloeomjdkcaaGreatDoorRows
import Derived.Test.YtbenloeomjdkcaaGreatDoorTxB
import Derived.Test.YtbenloeomjdkcaaGreatDoorShelfP
import Derived.WalkKit
import Derived.ProofKit
import Derived.Lib.Hide
import Derived.Lib.AtoiErrMem
import Derived.Lib.AppendIntMem
import Derived.OwnWalk
import Derived.Laws.Pointers
import Derived.WalkSmall
import Derived.Lib.ParseIntBTie
import Derived.Deep.RegionHeld3
import Derived.Deep.RegionWith
import Derived.Test.YtbenloeomjdkcaaGreatDoorNetK
namespace Go.Proofs.YtbenloeomjdkcaaGreatDoor.text
open Go.RowKit Go.Proofs.YtbenloeomjdkcaaGreatDoor.mem
set_option linter.unusedVariables false

def sp : Nat → List UInt8 → List (List UInt8)
  | 0, s => [s]
  | k + 1, s => if (32 : UInt8) ∈ s then s.takeWhile (· != 32) :: sp k ((s.dropWhile (· != 32)).drop 1) else [s]
theorem cut_at {a t : List UInt8} (h : (32 : UInt8) ∉ a) : (a ++ 32 :: t).takeWhile (· != 32) = a ∧ ((a ++ 32 :: t).dropWhile (· != 32)).drop 1 = t := by
  induction a with
  | nil => simp
  | cons x r ih =>
    have hx : (x != 32) = true := by simp; intro e; subst e; exact h (List.mem_cons_self ..)
    have hr := ih (fun e => h (List.mem_cons_of_mem _ e))
    simp only [List.cons_append, List.takeWhile_cons, List.dropWhile_cons, hx, if_true]
    exact ⟨by rw [hr.1], hr.2⟩
theorem cut_ex {s : List UInt8} (h : (32 : UInt8) ∈ s) : ∃ a t, (32 : UInt8) ∉ a ∧ s = a ++ 32 :: t := by
  induction s with
  | nil => cases h
  | cons x r ih =>
    by_cases hx : x = 32
    · subst hx
      exact ⟨[], r, by simp, rfl⟩
    · obtain ⟨a, t, h1, h2⟩ := ih (by rcases List.mem_cons.1 h with e | e; exact absurd e.symm hx; exact e)
      exact ⟨x :: a, t, by simp only [List.mem_cons, not_or]; exact ⟨fun e => hx e.symm, h1⟩, by rw [h2]; rfl⟩
theorem sp_one {k : Nat} {a t : List UInt8} (h : (32 : UInt8) ∉ a) : sp (k + 1) (a ++ 32 :: t) = a :: sp k t := by
  obtain ⟨h1, h2⟩ := cut_at (t := t) h
  show (if (32 : UInt8) ∈ a ++ 32 :: t then _ else _) = _
  rw [if_pos (by simp), h1, h2]
theorem sp_end {k : Nat} {a : List UInt8} (h : (32 : UInt8) ∉ a) : sp k a = [a] := by
  cases k with
  | zero => rfl
  | succ k =>
    show (if (32 : UInt8) ∈ a then _ else _) = _
    rw [if_neg h]
theorem sp_ne (k : Nat) (s : List UInt8) : sp k s ≠ [] := by
  cases k with
  | zero => simp [sp]
  | succ k =>
    unfold sp
    split <;> simp
theorem sp_join : ∀ (k : Nat) (s : List UInt8), Lib.join (sp k s) [32] = s := by
  intro k
  induction k with
  | zero => intro s; simp [sp, Lib.join, List.intercalate]
  | succ k ih =>
    intro s
    by_cases h : (32 : UInt8) ∈ s
    · obtain ⟨a, t, h1, rfl⟩ := cut_ex h
      rw [sp_one h1]
      have hi := ih t
      cases hs : sp k t with
      | nil => exact absurd hs (sp_ne k t)
      | cons y r =>
        rw [hs] at hi
        rw [← hi]
        simp [Lib.join, List.intercalate, List.intersperse]
    · rw [sp_end h]
      simp [Lib.join, List.intercalate]
theorem sp_big : ∀ (k j : Nat) (s : List UInt8), s.length ≤ k → s.length ≤ j → sp k s = sp j s := by
  intro k
  induction k with
  | zero =>
    intro j s h1 h2
    obtain rfl : s = [] := List.length_eq_zero_iff.1 (by omega)
    rw [sp_end (by simp), sp_end (by simp)]
  | succ k ih =>
    intro j s h1 h2
    by_cases h : (32 : UInt8) ∈ s
    · obtain ⟨a, t, h3, rfl⟩ := cut_ex h
      simp only [List.length_append, List.length_cons] at h1 h2
      obtain ⟨j', rfl⟩ : ∃ j', j = j' + 1 := ⟨j - 1, by omega⟩
      rw [sp_one h3, sp_one h3, ih j' t (by omega) (by omega)]
    · rw [sp_end h, sp_end h]
theorem sp_min (k : Nat) (s : List UInt8) : sp (min (k + 1) (s.length + 1) - 1) s = sp k s := by
  by_cases h : k ≤ s.length
  · rw [show min (k + 1) (s.length + 1) - 1 = k by omega]
  · rw [show min (k + 1) (s.length + 1) - 1 = s.length by omega]
    exact sp_big _ _ _ (Nat.le_refl _) (by omega)
theorem index_no {s : List UInt8} (h : (32 : UInt8) ∉ s) : Lib.index s [32] = -1 := by
  rw [Lib.index_one]
  have := Lib.indexByte_ge s 32
  rcases (by omega : Lib.indexByte s 32 = -1 ∨ 0 ≤ Lib.indexByte s 32) with e | e
  · exact e
  · obtain ⟨o, ho⟩ := Int.eq_ofNat_of_zero_le e
    exact absurd (List.mem_of_getElem? (Lib.indexByte_some ho).1) h
theorem index_at {a t : List UInt8} (h : (32 : UInt8) ∉ a) : Lib.index (a ++ 32 :: t) [32] = (a.length : Int) := by
  rw [Lib.index_one]
  have hge := Lib.indexByte_ge (a ++ 32 :: t) 32
  have hat : (a ++ 32 :: t)[a.length]? = some 32 := by simp
  rcases (by omega : Lib.indexByte (a ++ 32 :: t) 32 = -1 ∨ 0 ≤ Lib.indexByte (a ++ 32 :: t) 32) with e | e
  · exact absurd hat (Lib.indexByte_none e _)
  · obtain ⟨o, ho⟩ := Int.eq_ofNat_of_zero_le e
    obtain ⟨h1, h2⟩ := Lib.indexByte_some ho
    rw [ho]
    rcases Nat.lt_trichotomy o a.length with q | q | q
    · rw [List.getElem?_append_left q] at h1
      exact absurd (List.mem_of_getElem? h1) h
    · rw [q]
    · exact absurd hat (h2 _ q)
theorem splitK_sp : ∀ (k : Nat) (s : List UInt8), Lib.splitK [32] 0 k s = sp k s := by
  intro k
  induction k with
  | zero => intro s; rfl
  | succ k ih =>
    intro s
    by_cases h : (32 : UInt8) ∈ s
    · obtain ⟨a, t, h1, rfl⟩ := cut_ex h
      rw [sp_one h1]
      unfold Lib.splitK
      rw [index_at h1, if_neg (by simp), ih]
      simp
    · rw [sp_end h]
      unfold Lib.splitK
      rw [index_no h]
      rfl
theorem splitB_sp (k : Nat) (s : ByteArray) : (Lib.splitB ⟨#[32]⟩ 0 (min (k + 1) (s.size + 1) - 1) s).map (·.data.toList) = sp k s.data.toList := by
  rw [Lib.splitB_data]
  show Lib.splitK [32] 0 _ _ = _
  have e : s.size = s.data.toList.length := Array.length_toList.symm
  rw [splitK_sp, e, sp_min]
theorem sp_size : ∀ (k : Nat) (s x : List UInt8), x ∈ sp k s → x.length ≤ s.length := by
  intro k
  induction k with
  | zero =>
    intro s x h
    obtain rfl : x = s := by simpa [sp] using h
    exact Nat.le_refl _
  | succ k ih =>
    intro s x h
    by_cases hb : (32 : UInt8) ∈ s
    · obtain ⟨a, t, h1, rfl⟩ := cut_ex hb
      rw [sp_one h1] at h
      simp only [List.length_append, List.length_cons]
      rcases List.mem_cons.1 h with rfl | h
      · omega
      · have := ih t x h
        omega
    · rw [sp_end hb] at h
      obtain rfl : x = s := by simpa using h
      exact Nat.le_refl _
end Go.Proofs.YtbenloeomjdkcaaGreatDoor.text

namespace Go.Proofs.YtbenloeomjdkcaaGreatDoor.text
open Go.RowKit Go.Proofs.YtbenloeomjdkcaaGreatDoor.mem
set_option linter.unusedVariables false

def isDig (c : UInt8) : Bool := decide (48 ≤ c.toNat) && decide (c.toNat ≤ 57)
theorem isDig_iff {c : UInt8} : isDig c = true ↔ 48 ≤ c.toNat ∧ c.toNat ≤ 57 := by simp [isDig]
def val (acc : Nat) (l : List UInt8) : Nat := l.foldl (fun a c => 10 * a + (c.toNat - 48)) acc
theorem val_append (acc : Nat) (l m : List UInt8) : val acc (l ++ m) = val (val acc l) m := by simp [val]
theorem val_one (acc : Nat) (c : UInt8) : val acc [c] = 10 * acc + (c.toNat - 48) := rfl
theorem digU_nat {r : Nat} (h : r < 10) : (digU r).toNat = 48 + r := by
  unfold digU; rw [UInt8.toNat_ofNat']; omega

theorem dec_step {n : Nat} (h : ¬ n < 10) : Lib.decDigits n = Lib.decDigits (n / 10) ++ [digU (n % 10)] := by
  rw [Lib.decDigits, dif_neg h]; rfl
theorem dec_base {n : Nat} (h : n < 10) : Lib.decDigits n = [digU n] := by rw [Lib.decDigits_one h]; rfl

theorem dec_facts (k : Nat) : ∀ n, n ≤ k → (∀ c ∈ Lib.decDigits n, isDig c = true) ∧ val 0 (Lib.decDigits n) = n := by
  induction k with
  | zero =>
    intro n hn
    have : n < 10 := by omega
    rw [dec_base this]
    have := digU_nat this
    constructor
    · intro c hc
      obtain rfl : c = digU n := by simpa using hc
      rw [isDig_iff]; omega
    · rw [val_one]; omega
  | succ k ih =>
    intro n hn
    by_cases h : n < 10
    · rw [dec_base h]
      have := digU_nat h
      constructor
      · intro c hc
        obtain rfl : c = digU n := by simpa using hc
        rw [isDig_iff]; omega
      · rw [val_one]; omega
    · rw [dec_step h]
      obtain ⟨i1, i2⟩ := ih (n / 10) (by omega)
      have hd := digU_nat (r := n % 10) (by omega)
      constructor
      · intro c hc
        rcases List.mem_append.1 hc with h1 | h1
        · exact i1 c h1
        · obtain rfl : c = digU (n % 10) := by simpa using h1
          rw [isDig_iff]; omega
      · rw [val_append, i2, val_one]; omega
theorem dec_dig (n : Nat) : ∀ c ∈ Lib.decDigits n, isDig c = true := (dec_facts n n (Nat.le_refl _)).1
theorem dec_val (n : Nat) : val 0 (Lib.decDigits n) = n := (dec_facts n n (Nat.le_refl _)).2
theorem dec_inj {m n : Nat} (h : Lib.decDigits m = Lib.decDigits n) : m = n := by rw [← dec_val m, h, dec_val]
theorem dec_pos (n : Nat) : 1 ≤ (Lib.decDigits n).length := by
  rw [Lib.decDigits_length]
  by_cases h : n < 10
  · rw [Lib.nDigits_small h]; omega
  · rw [Lib.nDigits_big h]; omega
theorem val_le (acc : Nat) (l : List UInt8) : acc ≤ val acc l := by
  induction l generalizing acc with
  | nil => exact Nat.le_refl _
  | cons c l ih => exact Nat.le_trans (by omega) (ih (10 * acc + (c.toNat - 48)))

theorem parse_dig (M : Nat) (hM : M ≤ 18446744073709551615) (l : List UInt8) : ∀ acc, (∀ c ∈ l, isDig c = true) → val acc l ≤ M → Lib.parseUintM M acc l = .ok (val acc l) := by
  induction l with
  | nil => intro acc _ _; rfl
  | cons c l ih =>
    intro acc hd hv
    have hc := isDig_iff.1 (hd c (List.mem_cons_self ..))
    have e : val acc (c :: l) = val (acc * 10 + (c.toNat - 48)) l := by
      show val (10 * acc + (c.toNat - 48)) l = _
      rw [Nat.mul_comm]
    rw [e] at hv ⊢
    have h1 := val_le (acc * 10 + (c.toNat - 48)) l
    unfold Lib.parseUintM
    rw [if_pos hc, if_neg (by omega), if_neg (by omega)]
    exact ih _ (fun x hx => hd x (List.mem_cons_of_mem _ hx)) hv

/-- the parts of a text -/
theorem dec_noblank (n : Nat) : (32 : UInt8) ∉ Lib.decDigits n := fun h => by
  have := isDig_iff.1 (dec_dig n 32 h)
  simp at this
theorem name_noblank {s : ByteArray} (h : nameB s = true) : (32 : UInt8) ∉ s.data.toList := fun e => by
  unfold nameB at h
  simp only [Bool.and_eq_true, List.all_eq_true] at h
  have := chr_iff.1 (h.2 32 e)
  simp at this
theorem parse_dec (n : Nat) (h : n ≤ 1000000000) : Lib.parseIntB 64 (Lib.decDigits n) = .ok (n : Int) := by
  have hp := parse_dig 18446744073709551615 (Nat.le_refl _) (Lib.decDigits n) 0 (dec_dig n) (by rw [dec_val]; omega)
  rw [dec_val] at hp
  have hne := dec_pos n
  have hd := dec_dig n
  have hu : Lib.parseUintB 64 (Lib.decDigits n) = .ok n := by
    unfold Lib.parseUintB
    rw [if_neg (by intro e; rw [e] at hne; simp at hne)]
    exact hp
  generalize Lib.decDigits n = l at *
  cases l with
  | nil => simp at hne
  | cons c r =>
    have hc := isDig_iff.1 (hd c (List.mem_cons_self ..))
    unfold Lib.parseIntB
    dsimp only
    rw [if_neg (by omega), hu]
    dsimp only
    rw [if_neg (by omega : ¬ (¬ c.toNat = 45 ∧ 2 ^ (64 - 1) ≤ n)), if_neg (by omega : ¬ (c.toNat = 45 ∧ 2 ^ (64 - 1) < n)), if_neg (by omega : ¬ c.toNat = 45)]
/-- l is the text of the int64 x -/
def NumOK (l : List UInt8) (x : Int) : Prop := Lib.parseIntB 64 l = .ok x ∧ Lib.itoa x = l
theorem itoa_nat {x : Int} (h : 0 ≤ x) : Lib.itoa x = Lib.decDigits x.toNat := by
  obtain ⟨n, rfl⟩ := Int.eq_ofNat_of_zero_le h
  unfold Lib.itoa
  rw [if_neg (by omega)]
theorem numOK_dec {x : Int} (h0 : 0 ≤ x) (h1 : x ≤ 1000000000) : NumOK (Lib.decDigits x.toNat) x := by
  obtain ⟨n, rfl⟩ := Int.eq_ofNat_of_zero_le h0
  exact ⟨parse_dec n (by omega), itoa_nat h0⟩
def wNode : List UInt8 := [110, 111, 100, 101]
theorem nodeL_cat (q : Nod) : nodeL q = wNode ++ 32 :: (q.s.data.toList ++ 32 :: (Lib.decDigits q.lo.toNat ++ 32 :: Lib.decDigits q.hi.toNat)) := by
  unfold nodeL wNode
  simp [numsL]
theorem sp_node {q : Nod} (h : nodB q = true) (k : Nat) : sp (k + 3) (nodeL q) = [wNode, q.s.data.toList, Lib.decDigits q.lo.toNat, Lib.decDigits q.hi.toNat] := by
  have hn : nameB q.s = true := by
    unfold nodB at h
    simp only [Bool.and_eq_true] at h
    exact h.1.1.1
  rw [nodeL_cat, sp_one (by unfold wNode; decide), sp_one (name_noblank hn), sp_one (dec_noblank _), sp_end (dec_noblank _)]
theorem sp_cat4 {k : Nat} {s a b c d : List UInt8} (h : sp k s = [a, b, c, d]) : s = a ++ 32 :: (b ++ 32 :: (c ++ 32 :: d)) := by
  have := sp_join k s
  rw [h] at this
  rw [← this]
  simp [Lib.join, List.intercalate, List.intersperse]
/-- the one node whose line the text is -/
theorem node_uniq {q r : Nod} (hq : nodB q = true) (hr : nodB r = true) (h : nodeL q = nodeL r) : q = r := by
  have e1 := sp_node hq 0
  have e2 := sp_node hr 0
  rw [h, e2] at e1
  simp only [List.cons.injEq, and_true, true_and] at e1
  obtain ⟨h1, h2, h3⟩ := e1
  obtain ⟨a1, a2, a3⟩ := nod_bd hq
  obtain ⟨b1, b2, b3⟩ := nod_bd hr
  have k2 := dec_inj h2
  have k3 := dec_inj h3
  obtain ⟨s, lo, hi⟩ := q
  obtain ⟨s', lo', hi'⟩ := r
  simp only at h1 k2 k3 a2 a3 b2 b3
  have es : s' = s := by
    obtain ⟨⟨x⟩⟩ := s
    obtain ⟨⟨y⟩⟩ := s'
    simp only at h1
    rw [h1]
  rw [es, show lo = lo' by omega, show hi = hi' by omega]
end Go.Proofs.YtbenloeomjdkcaaGreatDoor.text

namespace Go.Proofs.YtbenloeomjdkcaaGreatDoor.text
open Go.RowKit Go.Proofs.YtbenloeomjdkcaaGreatDoor.mem
set_option linter.unusedVariables false
set_option maxRecDepth 100000

/-- the panic of a wrong line -/
def fell : List PanicEntry := [{ v := .iface 9 (.string ⟨#[119, 114, 111, 110, 103, 32, 108, 105, 110, 101]⟩), recovered := false }]
theorem fail_any (a : Value) (w : World) : Calls Tryz.prog 46 #[a] w fun e w' => e = .panicked fell ∧ w = w' := by
  go_enter Tryz.func46, Tryz.ntmps46
  go_wp2_with fail
  exact ⟨rfl, rfl, rfl⟩
/-- the parser's cells -/
def parC (vN vP : Value) (k : Int) (vW : Value) : Nat → Value := fun i => match i with
  | 0 => vN
  | 1 => vP
  | 2 => .int .i64 k
  | _ => vW
/-- words in a row outside of block b -/
structure Ws (w : World) (b : Nat) (v : Value) (ws : List ByteArray) : Prop where
  ex : ∃ p cap, v = .slice p ws.length cap ∧ ws.length ≤ cap ∧ cap ≤ 1000000 ∧ (ws = [] ∨ ∃ bw o, p = some ⟨bw, o, none⟩ ∧ bw < w.heap.size ∧ bw ≠ b ∧ ∀ (i : Nat) x, ws[i]? = some x → w.cell? ⟨bw, o + i, none⟩ = some (.string x))
theorem Ws.upd {w w' : World} {b : Nat} {v : Value} {ws : List ByteArray} (h : Ws w b v ws) (g : Upd (· = b) w w') : Ws w' b v ws := by
  obtain ⟨p, cap, h1, h2, h3, h4⟩ := h.ex
  refine ⟨p, cap, h1, h2, h3, ?_⟩
  rcases h4 with h4 | ⟨bw, o, h4, h5, h6, h7⟩
  · exact .inl h4
  · exact .inr ⟨bw, o, h4, Nat.lt_of_lt_of_le h5 g.size, h6, fun i x hx => (World.cell?_of_block (g.block bw h5 h6)).trans (h7 i x hx)⟩

def WordPost (w : World) (b : Nat) (vN vP : Value) (k : Int) (ws : List ByteArray) (e : Ending) (w' : World) : Prop :=
  (ws = [] ∧ e = .panicked fell ∧ w = w') ∨ ∃ x r vW, ws = x :: r ∧ e = .returned (.string x) ∧ Ob w' b 4 (parC vN vP k vW) ∧ Ws w' b vW r ∧ Upd (· = b) w w'
set_option maxHeartbeats 2000000 in
theorem word_any (w : World) (b : Nat) (vN vP vW : Value) (k : Int) (ws : List ByteArray) (h : Ob w b 4 (parC vN vP k vW)) (g : Ws w b vW ws) :
    Calls Tryz.prog 64 #[.pointer (some ⟨b, 0, none⟩)] w (WordPost w b vN vP k ws) := by
  obtain ⟨p, cap, rfl, h2, h3, h4⟩ := g.ex
  have c3 : w.cell? ⟨b, 3, none⟩ = some (.slice p ws.length cap) := h.cell 3 (by omega)
  have f3 : w.frozen? ⟨b, 3, none⟩ = false := h.free 3
  have H := Lib.hid h
  have G := Lib.hid g
  clear h g
  rcases ws with _ | ⟨x, r⟩
  · clear h4
    go_enter Tryz.func64, Tryz.ntmps64
    go_wp2_with (first | (go_at_call 46; refine (fail_any _ _).mono ?_; rintro e w' ⟨rfl, rfl⟩))
    exact ⟨rfl, .inl ⟨rfl, rfl, rfl⟩⟩
  · rcases h4 with h4 | ⟨bw, o, rfl, h5, h6, h7⟩
    · cases h4
    have hx : w.cell? ⟨bw, o, none⟩ = some (.string x) := h7 0 x rfl
    have H7 := Lib.hid h7
    have hr1 : (1 : Int) ≤ ((r.length + 1 : Nat) : Int) := by omega
    have hr2 : (0 : Int) < ((r.length + 1 : Nat) : Int) := by omega
    simp only [List.length_cons] at c3 h2
    clear h7
    have key : ∀ vW', (∃ p cap, vW' = .slice p r.length cap ∧ r.length ≤ cap ∧ cap ≤ 1000000 ∧ (r = [] ∨ p = some ⟨bw, o + 1, none⟩)) → WordPost w b vN vP k (x :: r) (.returned (.string x)) (w.setCell ⟨b, 3, none⟩ vW') := by
      rintro vW' ⟨q, cq, rfl, q1, q2, q3⟩
      have hO := (Only.refl b w).setCell 3 (.slice q r.length cq)
      refine .inr ⟨x, r, _, rfl, rfl, (H.out.set 3 (.slice q r.length cq) (by omega)).congr (fun j hj => by rcases (by omega : j = 0 ∨ j = 1 ∨ j = 2 ∨ j = 3) with rfl | rfl | rfl | rfl <;> rfl), ⟨q, cq, rfl, q1, q2, ?_⟩, Upd.of_only hO⟩
      rcases q3 with rfl | rfl
      · exact .inl rfl
      · refine .inr ⟨bw, o + 1, rfl, by rw [← hO.size]; exact h5, h6, fun i y hy => ?_⟩
        have e1 := H7.out (i + 1) y (by simpa using hy)
        rw [show o + 1 + i = o + (i + 1) by omega]
        exact (World.cell?_of_block (hO.block bw h6)).trans e1
    have KEY := Lib.hid key
    clear key
    by_cases hc1 : cap = 1
    · subst hc1
      obtain rfl : r = [] := List.length_eq_zero_iff.1 (by omega)
      go_enter Tryz.func64, Tryz.ntmps64
      go_wp2_with (first | (go_at_call 46; refine (fail_any _ _).mono ?_; rintro e w' ⟨rfl, rfl⟩))
      go_ret
      exact KEY.out _ ⟨_, 0, rfl, by simp, by omega, .inl trivial⟩
    · go_enter Tryz.func64, Tryz.ntmps64
      go_wp2_with (first | (go_at_call 46; refine (fail_any _ _).mono ?_; rintro e w' ⟨rfl, rfl⟩))
      all_goals go_ret
      all_goals exact KEY.out _ ⟨_, cap - 1, rfl, by omega, by omega, .inr rfl⟩

/-- the library's variables that a reading looks at -/
structure Env (w : World) : Prop where
  pow : Pow w
  maxlen : ∃ m : Int, w.cell? ⟨0, 0, none⟩ = some (.int .i64 m)
  syn : ∃ t p, w.var? Tryz.prog "strconv.ErrSyntax" = some #[.iface t p]
  rng : ∃ t p, w.var? Tryz.prog "strconv.ErrRange" = some #[.iface t p]
theorem env_below {w w' : World} (h : Env w) (hb : Below w.heap.size w w') : Env w' := by
  obtain ⟨h1, ⟨m, h2⟩, ⟨t3, p3, h3⟩, ⟨t4, p4, h4⟩⟩ := h
  exact ⟨pow_below h1 hb, ⟨m, (hb.cell (p := ⟨_, 0, none⟩) (World.block_lt_of_cell? w _ h2)).trans h2⟩, ⟨t3, p3, var_below h3 hb⟩, ⟨t4, p4, var_below h4 hb⟩⟩
def ParsePost (w : World) (l : List UInt8) (e : Ending) (w' : World) : Prop :=
  (∃ v : Int, e = .returned (.tuple #[.int .i64 v, .nilIface]) ∧ Lib.parseIntB 64 l = .ok v ∧ Below w.heap.size w w') ∨
  (∃ (v : Int) (t : TypeId) (x : Value), e = .returned (.tuple #[.int .i64 v, .iface t x]) ∧ (∀ u, Lib.parseIntB 64 l ≠ .ok u) ∧ Below w.heap.size w w')
theorem parse_cases (x : Lib.NumEnd Int) : (∃ v, x = .ok v) ∨ x = Lib.NumEnd.syntax ∨ x = .range := by cases x <;> simp
theorem parseInt_any (s : ByteArray) (w : World) (hl : s.size ≤ 281474976710656) (he : Env w) :
    Calls Tryz.prog 94 #[.string s, .int .i64 10, .int .i64 64] w (ParsePost w s.data.toList) := by
  obtain ⟨h1, h2, ⟨t3, p3, h3⟩, ⟨t4, p4, h4⟩⟩ := he
  rcases parse_cases (Lib.parseIntB 64 s.data.toList) with ⟨v, hp⟩ | hp | hp
  · refine (Tryz.strconv_ParseInt_10_at64_ok s (by omega) v hp w).mono ?_
    rintro e w' ⟨rfl, hw⟩
    refine .inl ⟨v, rfl, hp, ?_⟩
    rcases hw with rfl | ⟨t, rfl⟩
    · exact Below.refl _ _
    · exact Lib.bytesWorld_below _ _ _
  · refine (Tryz.strconv_ParseInt_10_at64_syntax_var s hl hp t3 p3 w h3).mono ?_
    rintro e w' ⟨N, rfl, _, _, hb⟩
    exact .inr ⟨_, _, _, rfl, fun u => by rw [hp]; simp, hb⟩
  · refine (Tryz.strconv_ParseInt_10_at64_range_var s hl hp t4 p4 w h4).mono ?_
    rintro e w' ⟨N, rfl, _, _, hb⟩
    exact .inr ⟨_, _, _, rfl, fun u => by rw [hp]; simp, hb⟩
theorem formatInt_all (x : Int) (w : World) (h0 : -9223372036854775808 ≤ x) (h1 : x ≤ 9223372036854775807) (hp : Pow w) :
    Calls Tryz.prog 74 #[.int .i64 x, .int .i64 10] w (StrPost w (Lib.itoa x)) := by
  refine (Tryz.strconv_FormatInt_10 x h0 h1 w hp).mono ?_
  rintro e w' ⟨rfl, k, os, rfl⟩
  exact ⟨rfl, Lib.below_grow _ _ (Nat.le_refl _) _ _⟩

theorem updTrans {b : Nat} {w0 w1 w2 : World} (h : Upd (· = b) w0 w1) (g : Below w1.heap.size w1 w2) : Upd (· = b) w0 w2 := h.trans (Upd.of_below g)
/-- at a panic: what may have changed, and that the lines are as they were -/
structure Pan (b : Nat) (k : Int) (X : Nat → Prop) (w w' : World) : Prop where
  upd : Upd X w w'
  lines : w'.cell? ⟨b, 2, none⟩ = some (.int .i64 k)
theorem Pan.pre {b : Nat} {k : Int} {X : Nat → Prop} {w w' w'' : World} (h : Pan b k X w' w'') (u : Upd X w w') : Pan b k X w w'' := ⟨u.trans h.upd, h.lines⟩
theorem Pan.mono {b : Nat} {k : Int} {X Y : Nat → Prop} {w w' : World} (h : Pan b k X w w') (f : ∀ y, X y → Y y) : Pan b k Y w w' := ⟨h.upd.mono (fun y _ e => f y e), h.lines⟩
def NumPost (w : World) (b : Nat) (vN vP : Value) (k : Int) (ws : List ByteArray) (e : Ending) (w' : World) : Prop :=
  (e = .panicked fell ∧ Pan b k (· = b) w w' ∧ ∀ x r, ws = x :: r → ∀ z, ¬ NumOK x.data.toList z) ∨
  ∃ x r vW z, ws = x :: r ∧ NumOK x.data.toList z ∧ e = .returned (.int .i64 z) ∧ Ob w' b 4 (parC vN vP k vW) ∧ Ws w' b vW r ∧ Upd (· = b) w w'
set_option maxHeartbeats 2000000 in
theorem number_any (w0 w : World) (b : Nat) (vN vP vW : Value) (k : Int) (ws : List ByteArray) (h : Ob w b 4 (parC vN vP k vW)) (g : Ws w b vW ws) (hE : Env w0) (h0 : Below w0.heap.size w0 w) (hb : w0.heap.size ≤ b) (hsz : ∀ x ∈ ws, x.size ≤ 281474976710656) :
    Calls Tryz.prog 81 #[.pointer (some ⟨b, 0, none⟩)] w (NumPost w b vN vP k ws) := by
  have HE := Lib.hid hE
  have H0 := Lib.hid h0
  have HZ := Lib.hid hsz
  clear hE h0 hsz
  go_enter Tryz.func81, Tryz.ntmps81
  go_wp2_with fail
  refine (word_any w b vN vP vW k ws h g).mono ?_
  rintro e w1 (⟨rfl, rfl, rfl⟩ | ⟨x, r, vW1, rfl, rfl, O1, W1, U1⟩)
  · exact ⟨rfl, .inl ⟨rfl, ⟨Upd.refl _ _, h.cell 2 (by omega)⟩, fun x r e => by cases e⟩⟩
  have hB1 : Below w0.heap.size w0 w1 := H0.out.trans (U1.below H0.out.size (by rintro q _ rfl; exact hb))
  have hsz1 := HZ.out x (List.mem_cons_self ..)
  clear h g
  go_wp2_with fail
  refine (parseInt_any x w1 hsz1 (env_below HE.out hB1)).mono ?_
  rintro e w2 (⟨v, rfl, hv, b2⟩ | ⟨v, t, y, rfl, hv, b2⟩)
  · have hbd := Lib.parseIntB_bounds hv
    have U2 := Lib.hid (updTrans U1 b2)
    have O2 := Lib.hid (O1.below b2 O1.lt)
    have W2 := Lib.hid (W1.upd (Upd.of_below b2))
    have HV := Lib.hid hv
    have hB2 := hB1.trans (b2.mono hB1.size)
    have HB2 := Lib.hid hB2
    have hv0 : -9223372036854775808 ≤ v := by have := hbd.1; omega
    have hv1 : v ≤ 9223372036854775807 := by have := hbd.2; omega
    clear b2 O1 W1 U1 hv hB1 hB2 hbd
    go_wp2_with fail
    refine (formatInt_all v w2 hv0 hv1 (env_below HE.out HB2.out).pow).mono ?_
    rintro e w3 ⟨rfl, b3⟩
    have U3 := Lib.hid (updTrans U2.out b3)
    have O3 := Lib.hid (O2.out.below b3 O2.out.lt)
    have W3 := Lib.hid (W2.out.upd (Upd.of_below b3))
    clear b3 U2 O2 W2
    by_cases hq : Lib.itoa v = x.data.toList
    · have hx : x = ⟨(Lib.itoa v).toArray⟩ := by rw [hq]
      have hn : NumOK x.data.toList v := ⟨HV.out, hq⟩
      have HN := Lib.hid hn
      clear hn hq HV
      subst hx
      go_wp2_with fail
      go_ret
      exact .inr ⟨_, r, vW1, v, rfl, HN.out, rfl, O3.out, W3.out, U3.out⟩
    · have hq2 : (Lib.itoa v == x.data.toList) = false := beq_eq_false_iff_ne.2 hq
      have hq3 : (Lib.itoa v == x.toList) = false := by rw [beq_eq_false_iff_ne, Go.ByteArray.toList_eq]; exact hq
      have hno : Hid (∀ z, ¬ NumOK x.data.toList z) := Lib.hid (fun z hz => by
        have e1 := HV.out.symm.trans hz.1
        injection e1 with e1
        subst e1
        exact hq hz.2)
      clear hq
      go_wp2_with (first | (go_at_call 46; refine (fail_any _ _).mono ?_; rintro e w' ⟨rfl, rfl⟩))
      exact ⟨rfl, .inl ⟨rfl, ⟨U3.out, O3.out.cell 2 (by omega)⟩, fun x' r' e z => by injection e with e1 _; subst e1; exact hno.out z⟩⟩
  · have U2 := Lib.hid (updTrans U1 b2)
    have O2 := Lib.hid (O1.below b2 O1.lt)
    have hno : Hid (∀ z, ¬ NumOK x.data.toList z) := Lib.hid (fun z hz => hv z hz.1)
    clear b2 O1 W1 U1 hv hB1
    go_wp2_with (first | (go_at_call 46; refine (fail_any _ _).mono ?_; rintro e w' ⟨rfl, rfl⟩))
    exact ⟨rfl, .inl ⟨rfl, ⟨U2.out, O2.out.cell 2 (by omega)⟩, fun x' r' e z => by injection e with e1 _; subst e1; exact hno.out z⟩⟩
end Go.Proofs.YtbenloeomjdkcaaGreatDoor.text

namespace Go.Proofs.YtbenloeomjdkcaaGreatDoor.text
open Go.RowKit Go.Proofs.YtbenloeomjdkcaaGreatDoor.mem
set_option linter.unusedVariables false
set_option maxRecDepth 100000

theorem nth0 {o : Oper} {l : List Oper} : (List.toArray (o :: l))[0]? = some o := rfl
theorem nth1 {o0 o1 : Oper} {l : List Oper} : (List.toArray (o0 :: o1 :: l))[1]? = some o1 := rfl
theorem nth2 {o0 o1 o2 : Oper} {l : List Oper} : (List.toArray (o0 :: o1 :: o2 :: l))[2]? = some o2 := rfl
theorem nth3 {o0 o1 o2 o3 : Oper} {l : List Oper} : (List.toArray (o0 :: o1 :: o2 :: o3 :: l))[3]? = some o3 := rfl
theorem nth4 {o0 o1 o2 o3 o4 : Oper} {l : List Oper} : (List.toArray (o0 :: o1 :: o2 :: o3 :: o4 :: l))[4]? = some o4 := rfl
theorem nth5 {o0 o1 o2 o3 o4 o5 : Oper} {l : List Oper} : (List.toArray (o0 :: o1 :: o2 :: o3 :: o4 :: o5 :: l))[5]? = some o5 := rfl
theorem nth6 {o0 o1 o2 o3 o4 o5 o6 : Oper} {l : List Oper} : (List.toArray (o0 :: o1 :: o2 :: o3 :: o4 :: o5 :: o6 :: l))[6]? = some o6 := rfl
theorem nth7 {o0 o1 o2 o3 o4 o5 o6 o7 : Oper} {l : List Oper} : (List.toArray (o0 :: o1 :: o2 :: o3 :: o4 :: o5 :: o6 :: o7 :: l))[7]? = some o7 := rfl
theorem nth8 {o0 o1 o2 o3 o4 o5 o6 o7 o8 : Oper} {l : List Oper} : (List.toArray (o0 :: o1 :: o2 :: o3 :: o4 :: o5 :: o6 :: o7 :: o8 :: l))[8]? = some o8 := rfl
theorem nth9 {o0 o1 o2 o3 o4 o5 o6 o7 o8 o9 : Oper} {l : List Oper} : (List.toArray (o0 :: o1 :: o2 :: o3 :: o4 :: o5 :: o6 :: o7 :: o8 :: o9 :: l))[9]? = some o9 := rfl
theorem nth10 {o0 o1 o2 o3 o4 o5 o6 o7 o8 o9 o10 : Oper} {l : List Oper} : (List.toArray (o0 :: o1 :: o2 :: o3 :: o4 :: o5 :: o6 :: o7 :: o8 :: o9 :: o10 :: l))[10]? = some o10 := rfl
theorem nth11 {o0 o1 o2 o3 o4 o5 o6 o7 o8 o9 o10 o11 : Oper} {l : List Oper} : (List.toArray (o0 :: o1 :: o2 :: o3 :: o4 :: o5 :: o6 :: o7 :: o8 :: o9 :: o10 :: o11 :: l))[11]? = some o11 := rfl
theorem nth12 {o0 o1 o2 o3 o4 o5 o6 o7 o8 o9 o10 o11 o12 : Oper} {l : List Oper} : (List.toArray (o0 :: o1 :: o2 :: o3 :: o4 :: o5 :: o6 :: o7 :: o8 :: o9 :: o10 :: o11 :: o12 :: l))[12]? = some o12 := rfl
theorem nth13 {o0 o1 o2 o3 o4 o5 o6 o7 o8 o9 o10 o11 o12 o13 : Oper} {l : List Oper} : (List.toArray (o0 :: o1 :: o2 :: o3 :: o4 :: o5 :: o6 :: o7 :: o8 :: o9 :: o10 :: o11 :: o12 :: o13 :: l))[13]? = some o13 := rfl
theorem nth14 {o0 o1 o2 o3 o4 o5 o6 o7 o8 o9 o10 o11 o12 o13 o14 : Oper} {l : List Oper} : (List.toArray (o0 :: o1 :: o2 :: o3 :: o4 :: o5 :: o6 :: o7 :: o8 :: o9 :: o10 :: o11 :: o12 :: o13 :: o14 :: l))[14]? = some o14 := rfl
theorem nth15 {o0 o1 o2 o3 o4 o5 o6 o7 o8 o9 o10 o11 o12 o13 o14 o15 : Oper} {l : List Oper} : (List.toArray (o0 :: o1 :: o2 :: o3 :: o4 :: o5 :: o6 :: o7 :: o8 :: o9 :: o10 :: o11 :: o12 :: o13 :: o14 :: o15 :: l))[15]? = some o15 := rfl
theorem nth16 {o0 o1 o2 o3 o4 o5 o6 o7 o8 o9 o10 o11 o12 o13 o14 o15 o16 : Oper} {l : List Oper} : (List.toArray (o0 :: o1 :: o2 :: o3 :: o4 :: o5 :: o6 :: o7 :: o8 :: o9 :: o10 :: o11 :: o12 :: o13 :: o14 :: o15 :: o16 :: l))[16]? = some o16 := rfl
theorem nth17 {o0 o1 o2 o3 o4 o5 o6 o7 o8 o9 o10 o11 o12 o13 o14 o15 o16 o17 : Oper} {l : List Oper} : (List.toArray (o0 :: o1 :: o2 :: o3 :: o4 :: o5 :: o6 :: o7 :: o8 :: o9 :: o10 :: o11 :: o12 :: o13 :: o14 :: o15 :: o16 :: o17 :: l))[17]? = some o17 := rfl
theorem nth18 {o0 o1 o2 o3 o4 o5 o6 o7 o8 o9 o10 o11 o12 o13 o14 o15 o16 o17 o18 : Oper} {l : List Oper} : (List.toArray (o0 :: o1 :: o2 :: o3 :: o4 :: o5 :: o6 :: o7 :: o8 :: o9 :: o10 :: o11 :: o12 :: o13 :: o14 :: o15 :: o16 :: o17 :: o18 :: l))[18]? = some o18 := rfl
theorem nth19 {o0 o1 o2 o3 o4 o5 o6 o7 o8 o9 o10 o11 o12 o13 o14 o15 o16 o17 o18 o19 : Oper} {l : List Oper} : (List.toArray (o0 :: o1 :: o2 :: o3 :: o4 :: o5 :: o6 :: o7 :: o8 :: o9 :: o10 :: o11 :: o12 :: o13 :: o14 :: o15 :: o16 :: o17 :: o18 :: o19 :: l))[19]? = some o19 := rfl
theorem nth20 {o0 o1 o2 o3 o4 o5 o6 o7 o8 o9 o10 o11 o12 o13 o14 o15 o16 o17 o18 o19 o20 : Oper} {l : List Oper} : (List.toArray (o0 :: o1 :: o2 :: o3 :: o4 :: o5 :: o6 :: o7 :: o8 :: o9 :: o10 :: o11 :: o12 :: o13 :: o14 :: o15 :: o16 :: o17 :: o18 :: o19 :: o20 :: l))[20]? = some o20 := rfl
theorem nth21 {o0 o1 o2 o3 o4 o5 o6 o7 o8 o9 o10 o11 o12 o13 o14 o15 o16 o17 o18 o19 o20 o21 : Oper} {l : List Oper} : (List.toArray (o0 :: o1 :: o2 :: o3 :: o4 :: o5 :: o6 :: o7 :: o8 :: o9 :: o10 :: o11 :: o12 :: o13 :: o14 :: o15 :: o16 :: o17 :: o18 :: o19 :: o20 :: o21 :: l))[21]? = some o21 := rfl
theorem nth22 {o0 o1 o2 o3 o4 o5 o6 o7 o8 o9 o10 o11 o12 o13 o14 o15 o16 o17 o18 o19 o20 o21 o22 : Oper} {l : List Oper} : (List.toArray (o0 :: o1 :: o2 :: o3 :: o4 :: o5 :: o6 :: o7 :: o8 :: o9 :: o10 :: o11 :: o12 :: o13 :: o14 :: o15 :: o16 :: o17 :: o18 :: o19 :: o20 :: o21 :: o22 :: l))[22]? = some o22 := rfl
theorem nth23 {o0 o1 o2 o3 o4 o5 o6 o7 o8 o9 o10 o11 o12 o13 o14 o15 o16 o17 o18 o19 o20 o21 o22 o23 : Oper} {l : List Oper} : (List.toArray (o0 :: o1 :: o2 :: o3 :: o4 :: o5 :: o6 :: o7 :: o8 :: o9 :: o10 :: o11 :: o12 :: o13 :: o14 :: o15 :: o16 :: o17 :: o18 :: o19 :: o20 :: o21 :: o22 :: o23 :: l))[23]? = some o23 := rfl

abbrev RN (B : Nat) := RowE B 55 3
def addN (N : Nat → Nod) (n : Nat) (q : Nod) : Nat → Nod := fun i => if i < n then N i else q
theorem appNod (B : Nat) (W : World) (v : Value) (n : Nat) (N : Nat → Nod) (q : Nod) (h : RN B W v n (nodC N)) (hB : B ≤ W.heap.size) (hn : n ≤ 1000000) :
    ∃ v' w', Sem.run Tryz.prog (Builtin.append_ #[22, 22] 22 #[v, .slice (some ⟨W.heap.size, 0, none⟩) 1 1]) (W.alloc (.cells #[.string q.s, .int .i64 q.lo, .int .i64 q.hi] 55)) = .ok v' w' ∧ RN B w' v' (n + 1) (nodC (addN N n q)) ∧ Upd (fun x => some x = v.ownBlock) W w' :=
  appOne Tryz.underlying22 info_make_node (by omega) rfl (by omega) B W v n _ _ h hB [.string q.s, .int .i64 q.lo, .int .i64 q.hi] rfl (by intro u hu; simp at hu; rcases hu with rfl | rfl | rfl <;> rfl)
    (fun i j hi hj => by rcases (by omega : j = 0 ∨ j = 1 ∨ j = 2) with rfl | rfl | rfl <;> simp [nodC, addN, hi])
    (fun j hj => by rcases (by omega : j = 0 ∨ j = 1 ∨ j = 2) with rfl | rfl | rfl <;> simp [nodC, addN]) hn

def RNPost (w : World) (b B n : Nat) (N : Nat → Nod) (vP : Value) (m : Nat) (k : Int) (ws : List ByteArray) (e : Ending) (w' : World) : Prop :=
  (e = .panicked fell ∧ Pan b k (fun x => x = b ∨ B ≤ x) w w' ∧ (m = 0 → ∀ x0 x1 x2 r lo hi, ws = x0 :: x1 :: x2 :: r → NumOK x1.data.toList lo → NumOK x2.data.toList hi → False)) ∨
  (m = 0 ∧ ∃ x0 x1 x2 r lo hi vN' pw cw, ws = x0 :: x1 :: x2 :: r ∧ NumOK x1.data.toList lo ∧ NumOK x2.data.toList hi ∧ e = .returned (.tuple #[]) ∧ Ob w' b 4 (parC vN' vP k (.slice pw r.length cw)) ∧ RN B w' vN' (n + 1) (nodC (addN N n ⟨x0, lo, hi⟩)) ∧ Upd (fun x => x = b ∨ B ≤ x) w w')
theorem upd_or {b B : Nat} {w w' : World} (h : Upd (· = b) w w') : Upd (fun x => x = b ∨ B ≤ x) w w' := h.mono (fun k _ e => .inl e)

set_option maxHeartbeats 4000000 in
theorem readNode_any (w0 w : World) (b B n : Nat) (N : Nat → Nod) (vN vW : Value) (pP : Option Addr) (m cP : Nat) (k : Int) (ws : List ByteArray) (h : Ob w b 4 (parC vN (.slice pP m cP) k vW)) (g : Ws w b vW ws) (hR : RN B w vN n (nodC N)) (hbB : b < B) (hBw : B ≤ w.heap.size) (hn : n ≤ 1000)
    (hE : Env w0) (h0 : Below w0.heap.size w0 w) (hb : w0.heap.size ≤ b) (hsz : ∀ x ∈ ws, x.size ≤ 281474976710656) :
    Calls Tryz.prog 65 #[.pointer (some ⟨b, 0, none⟩)] w (RNPost w b B n N (.slice pP m cP) m k ws) := by
  have HE := Lib.hid hE
  have H0 := Lib.hid h0
  have HZ := Lib.hid hsz
  clear hE h0 hsz
  have c1 : w.cell? ⟨b, 1, none⟩ = some (.slice pP m cP) := h.cell 1 (by omega)
  go_enter Tryz.func65, Tryz.ntmps65
  by_cases hm : 0 < m
  · have hmI : (0 : Int) < m := by omega
    go_wp2_with (first | (go_at_call 46; refine (fail_any _ _).mono ?_; rintro e w' ⟨rfl, rfl⟩))
    exact ⟨rfl, .inl ⟨rfl, ⟨Upd.refl _ _, h.cell 2 (by omega)⟩, fun e => by omega⟩⟩
  obtain rfl : m = 0 := by omega
  clear hm
  have bw : ∀ {X : World}, Upd (· = b) w X → Below w0.heap.size w0 X := fun u => H0.out.trans (u.below H0.out.size (by rintro q _ rfl; exact hb))
  go_wp2_with fail
  clear c1
  refine (word_any w b vN _ vW k ws h g).mono ?_
  rintro e w1 (⟨rfl, rfl, rfl⟩ | ⟨x0, r0, vW1, rfl, rfl, O1, W1, U1⟩)
  · exact ⟨rfl, .inl ⟨rfl, ⟨Upd.refl _ _, h.cell 2 (by omega)⟩, fun _ x0 x1 x2 r lo hi e => by cases e⟩⟩
  have B1 := bw U1
  clear h g
  go_wp2_with fail
  refine (number_any w0 w1 b vN _ vW1 k r0 O1 W1 HE.out B1 hb (fun x hx => HZ.out x (List.mem_cons_of_mem _ hx))).mono ?_
  rintro e w2 (⟨rfl, U2, hno⟩ | ⟨x1, r1, vW2, lo, rfl, hlo, rfl, O2, W2, U2⟩)
  · exact ⟨rfl, .inl ⟨rfl, (U2.pre U1).mono (fun _ e => .inl e), fun _ y0 y1 y2 r lo hi e n1 n2 => by
      injection e with e0 e1
      exact hno y1 (y2 :: r) e1 lo n1⟩⟩
  have UU2 := U1.trans U2
  have B2 := bw UU2
  have HLO := Lib.hid hlo
  clear U1 U2 O1 W1 B1 hlo
  go_wp2_with fail
  refine (number_any w0 w2 b vN _ vW2 k r1 O2 W2 HE.out B2 hb (fun x hx => HZ.out x (List.mem_cons_of_mem _ (List.mem_cons_of_mem _ hx)))).mono ?_
  rintro e w3 (⟨rfl, U3, hno⟩ | ⟨x2, r2, vW3, hi, rfl, hhi, rfl, O3, W3, U3⟩)
  · exact ⟨rfl, .inl ⟨rfl, (U3.pre UU2).mono (fun _ e => .inl e), fun _ y0 y1 y2 r lo hi e n1 n2 => by
      injection e with e0 e1
      injection e1 with e1 e2
      exact hno y2 r e2 hi n2⟩⟩
  have UU3 := Lib.hid (UU2.trans U3)
  have HHI := Lib.hid hhi
  obtain ⟨pw, cw, rfl, -⟩ := W3.ex
  have R3 := hR.low (UU2.trans U3) hbB
  have hs3 := (UU2.trans U3).size
  clear U3 O2 W2 B2 hhi UU2 hR W3
  have V1 := boxedN w3 ⟨x0, lo, hi⟩ 55
  have b1 := below_new w3 (.cells #[.string x0, .int .i64 lo, .int .i64 hi] 55)
  go_wp2_with fail
  generalize hW : w3.alloc (Obj.cells #[.string x0, .int .i64 lo, .int .i64 hi] 55) = w4 at *
  clear hW
  have O4 := O3.below b1 O3.lt
  have R4 := RowE.next R3 b1
  have hs4 := b1.size
  have hv4 := V1.lt
  obtain ⟨v5, w5, hr0, R5, u5⟩ := appNod B w4.drew vN n N ⟨x0, lo, hi⟩ (R4.keep (Upd.refl (fun _ => False) w4 |>.trans ⟨rfl, rfl, rfl, Nat.le_refl _, fun _ _ _ => rfl⟩) (fun _ _ e => e)) (by show B ≤ w4.heap.size; omega) (by omega)
  obtain ⟨p5, c5, rfl⟩ := RowE.shape R5
  have hr : Sem.run Tryz.prog (Builtin.append_ #[22, 22] 22 #[vN, .slice (some ⟨w4.heap.size, 0, none⟩) 1 1]) (w4.alloc (.cells #[.string x0, .int .i64 lo, .int .i64 hi] 55)).drew = .ok (.slice p5 (n + 1) c5) w5 := hr0
  clear hr0
  have u4 : Upd (fun x => some x = vN.ownBlock) w4 w5 := ⟨u5.os, u5.tape, u5.output, u5.size, u5.block⟩
  have hob : ∀ x, some x = vN.ownBlock → B ≤ x := fun x e => (R4.own.lt x e.symm).1
  have O5 := O4.keep (u4.block b O4.lt (fun e => by have := hob b e; omega))
  have V5 : Ob w5 w3.heap.size 3 _ := V1.keep (u4.block _ hv4 (fun e => by have := (R3.own.lt _ e.symm).2; omega))
  have a0 : w4.cell? ⟨b, 0, none⟩ = some vN := O4.cell 0 (by omega)
  have q0 : w4.cell? ⟨w3.heap.size, 0, none⟩ = some (.string x0) := V1.cell 0 (by omega)
  have q1 : w4.cell? ⟨w3.heap.size, 1, none⟩ = some (.int .i64 lo) := V1.cell 1 (by omega)
  have q2 : w4.cell? ⟨w3.heap.size, 2, none⟩ = some (.int .i64 hi) := V1.cell 2 (by omega)
  have S5 : (fun w' : World => w'.cell? ⟨b, 0, none⟩ = some vN ∧ w'.cell? ⟨w3.heap.size, 0, none⟩ = some (.string x0) ∧ w'.cell? ⟨w3.heap.size, 1, none⟩ = some (.int .i64 lo) ∧ w'.cell? ⟨w3.heap.size, 2, none⟩ = some (.int .i64 hi)) w5 := ⟨O5.cell 0 (by omega), V5.cell 0 (by omega), V5.cell 1 (by omega), V5.cell 2 (by omega)⟩
  have S0 : (fun w' : World => w'.cell? ⟨b, 0, none⟩ = some vN ∧ w'.cell? ⟨w3.heap.size, 0, none⟩ = some (.string x0) ∧ w'.cell? ⟨w3.heap.size, 1, none⟩ = some (.int .i64 lo) ∧ w'.cell? ⟨w3.heap.size, 2, none⟩ = some (.int .i64 hi)) w4.drew := ⟨a0, q0, q1, q2⟩
  have KA : Below w4.heap.size w4 (w4.alloc (.cells #[.string x0, .int .i64 lo, .int .i64 hi] 55)).drew := (below_new w4 _).trans ⟨rfl, rfl, rfl, Nat.le_refl _, fun _ _ => rfl⟩
  have hl4 := O4.lt
  have SA : (fun w' : World => w'.cell? ⟨b, 0, none⟩ = some vN ∧ w'.cell? ⟨w3.heap.size, 0, none⟩ = some (.string x0) ∧ w'.cell? ⟨w3.heap.size, 1, none⟩ = some (.int .i64 lo) ∧ w'.cell? ⟨w3.heap.size, 2, none⟩ = some (.int .i64 hi)) (w4.alloc (.cells #[.string x0, .int .i64 lo, .int .i64 hi] 55)).drew := ⟨(KA.cell (p := ⟨b, 0, none⟩) hl4).trans a0, (KA.cell (p := ⟨_, 0, none⟩) hv4).trans q0, (KA.cell (p := ⟨_, 1, none⟩) hv4).trans q1, (KA.cell (p := ⟨_, 2, none⟩) hv4).trans q2⟩
  have f5 : w5.frozen? ⟨b, 0, none⟩ = false := O5.free 0
  have g5 : w5.cell? ⟨b, 0, none⟩ = some vN := O5.cell 0 (by omega)
  have hne : w3.heap.size ≠ b := by omega
  have hO6 := (Only.refl b w5).setCell 0 (.slice p5 (n + 1) c5)
  have O6 := Lib.hid ((O5.set 0 (.slice p5 (n + 1) c5) (by omega)).congr (e := parC (.slice p5 (n + 1) c5) (.slice pP 0 cP) k (.slice pw r2.length cw)) (fun j hj => by rcases (by omega : j = 0 ∨ j = 1 ∨ j = 2 ∨ j = 3) with rfl | rfl | rfl | rfl <;> rfl))
  have R6 := Lib.hid (R5.low (Upd.of_only hO6) hbB)
  have U6 := Lib.hid (((upd_or (B := B) UU3.out).trans (Upd.of_below b1)).trans ((u4.mono (fun k _ e => .inr (hob k e))).trans (upd_or (Upd.of_only hO6))))
  clear b1 V1 O3 R3 O4 R4 R5 u5 u4 O5 V5 KA
  have e0 := S0.1
  have d0 := SA.1
  have S6 : (fun w' : World => w'.cell? ⟨w3.heap.size, 0, none⟩ = some (.string x0) ∧ w'.cell? ⟨w3.heap.size, 1, none⟩ = some (.int .i64 lo) ∧ w'.cell? ⟨w3.heap.size, 2, none⟩ = some (.int .i64 hi)) (w5.setCell ⟨b, 0, none⟩ (.slice p5 (n + 1) c5)) := ⟨(hO6.cell (a := ⟨w3.heap.size, 0, none⟩) hne).trans S5.2.1, (hO6.cell (a := ⟨w3.heap.size, 1, none⟩) hne).trans S5.2.2.1, (hO6.cell (a := ⟨w3.heap.size, 2, none⟩) hne).trans S5.2.2.2⟩
  clear hO6
  refine wp_region_held_drew (S := (fun w' : World => w'.cell? ⟨w3.heap.size, 0, none⟩ = some (.string x0) ∧ w'.cell? ⟨w3.heap.size, 1, none⟩ = some (.int .i64 lo) ∧ w'.cell? ⟨w3.heap.size, 2, none⟩ = some (.int .i64 hi))) (by kernel_rfl) S0.2 (fun hHeld => ?_)
  refine wpAnyH_take (i := 0) (v := ?_) nth0 (by kernel_rfl) (by kernel_rfl) (by kernel_rfl) (fun _ _ _ h => h) (Or.inl ⟨by rfl, ?_⟩) (by assumption) ?_
  rotate_left
  · intro w hSw; (try dsimp only at hSw); go_simp; try with_reducible rfl
  try simp only [Act.put, List.setIfInBounds_toArray, List.set_cons_zero, List.set_cons_succ]
  refine wpAnyH_take (i := 1) (v := ?_) nth1 (by kernel_rfl) (by kernel_rfl) (by kernel_rfl) (fun _ _ _ h => h) (Or.inl ⟨by rfl, ?_⟩) (by assumption) ?_
  rotate_left
  · intro w hSw; (try dsimp only at hSw); go_simp; try with_reducible rfl
  try simp only [Act.put, List.setIfInBounds_toArray, List.set_cons_zero, List.set_cons_succ]
  refine wpAnyH_take (i := 2) (v := ?_) nth2 (by kernel_rfl) (by kernel_rfl) (by kernel_rfl) (fun _ _ _ h => h) (Or.inl ⟨by rfl, ?_⟩) (by assumption) ?_
  rotate_left
  · intro w hSw; (try dsimp only at hSw); go_simp; try with_reducible rfl
  try simp only [Act.put, List.setIfInBounds_toArray, List.set_cons_zero, List.set_cons_succ]
  refine wpAnyH_take (i := 3) (v := ?_) nth3 (by kernel_rfl) (by kernel_rfl) (by kernel_rfl) (fun _ _ _ h => h) (Or.inl ⟨by rfl, ?_⟩) (by assumption) ?_
  rotate_left
  · intro w hSw; (try dsimp only at hSw); go_simp; try with_reducible rfl
  try simp only [Act.put, List.setIfInBounds_toArray, List.set_cons_zero, List.set_cons_succ]
  refine wpAnyH_take (i := 4) (v := ?_) nth4 (by kernel_rfl) (by kernel_rfl) (by kernel_rfl) (fun _ _ _ h => h) (Or.inl ⟨by rfl, ?_⟩) (by assumption) ?_
  rotate_left
  · intro w hSw; (try dsimp only at hSw); go_simp; try with_reducible rfl
  try simp only [Act.put, List.setIfInBounds_toArray, List.set_cons_zero, List.set_cons_succ]
  refine wpAnyH_take (i := 6) (v := ?_) nth6 (by kernel_rfl) (by kernel_rfl) (by kernel_rfl) (fun _ _ _ h => h) (Or.inl ⟨by rfl, ?_⟩) (by assumption) ?_
  rotate_left
  · intro w hSw; (try dsimp only at hSw); go_simp; try with_reducible rfl
  try simp only [Act.put, List.setIfInBounds_toArray, List.set_cons_zero, List.set_cons_succ]
  refine wpAnyH_ready (rs := [5, 7]) (by kernel_rfl) (by simp) ?_
  refine (AllReadyH.cons nth5 (fun K hK => ?_) (AllReadyH.cons nth7 (fun K hK => ?_) AllReadyH.nil))
  · go_simp
    refine hK.out _ _ ?_ (fun hHeld => ?_)
    · exact S0.2
    clear hK K
    try simp only [Act.put, List.setIfInBounds_toArray, List.set_cons_zero, List.set_cons_succ]
    refine wpAnyH_ready (rs := [7]) (by kernel_rfl) (by simp) ?_
    refine (AllReadyH.cons nth7 (fun K hK => ?_) AllReadyH.nil)
    go_simp
    refine hK.out _ _ ?_ (fun hHeld => ?_)
    · exact SA.2
    clear hK K
    try simp only [Act.put, List.setIfInBounds_toArray, List.set_cons_zero, List.set_cons_succ]
    refine wpAnyH_ready (rs := [8]) (by kernel_rfl) (by simp) ?_
    refine (AllReadyH.cons nth8 (fun K hK => ?_) AllReadyH.nil)
    refine step_appT hr rfl (.tmp 24) (.tmp 26) rfl rfl rfl rfl ?_
    refine hK.out _ _ ?_ (fun hHeld => ?_)
    · exact S5.2
    clear hK K
    try simp only [Act.put, List.setIfInBounds_toArray, List.set_cons_zero, List.set_cons_succ]
    refine wpAnyH_take (i := 9) (v := ?_) nth9 (by kernel_rfl) (by kernel_rfl) (by kernel_rfl) (fun _ _ _ h => h) (Or.inl ⟨by rfl, ?_⟩) (by assumption) ?_
    rotate_left
    · intro w hSw; (try dsimp only at hSw); go_simp; try with_reducible rfl
    try simp only [Act.put, List.setIfInBounds_toArray, List.set_cons_zero, List.set_cons_succ]
    refine wpAnyH_take (i := 10) (v := ?_) nth10 (by kernel_rfl) (by kernel_rfl) (by kernel_rfl) (fun _ _ _ h => h) (Or.inl ⟨by rfl, ?_⟩) (by assumption) ?_
    rotate_left
    · intro w hSw; (try dsimp only at hSw); go_simp; try with_reducible rfl
    try simp only [Act.put, List.setIfInBounds_toArray, List.set_cons_zero, List.set_cons_succ]
    refine wpAnyH_take (i := 11) (v := ?_) nth11 (by kernel_rfl) (by kernel_rfl) (by kernel_rfl) (fun _ _ _ h => h) (Or.inl ⟨by rfl, ?_⟩) (by assumption) ?_
    rotate_left
    · intro w hSw; (try dsimp only at hSw); go_simp; try with_reducible rfl
    try simp only [Act.put, List.setIfInBounds_toArray, List.set_cons_zero, List.set_cons_succ]
    refine wpAnyH_ready (rs := [12]) (by kernel_rfl) (by simp) ?_
    refine (AllReadyH.cons nth12 (fun K hK => ?_) AllReadyH.nil)
    go_simp
    refine hK.out _ _ ?_ (fun hHeld => ?_)
    · exact S6
    clear hK K
    try simp only [Act.put, List.setIfInBounds_toArray, List.set_cons_zero, List.set_cons_succ]
    refine wpAnyH_done (by kernel_rfl) ?_ _
    go_wp2_with fail
    go_end0
    exact .inr ⟨rfl, x0, x1, x2, r2, lo, hi, _, pw, cw, rfl, HLO.out, HHI.out, rfl, O6.out, R6.out, U6.out⟩
  · go_simp
    refine hK.out _ _ ?_ (fun hHeld => ?_)
    · exact SA.2
    clear hK K
    try simp only [Act.put, List.setIfInBounds_toArray, List.set_cons_zero, List.set_cons_succ]
    refine wpAnyH_ready (rs := [5]) (by kernel_rfl) (by simp) ?_
    refine (AllReadyH.cons nth5 (fun K hK => ?_) AllReadyH.nil)
    go_simp
    refine hK.out _ _ ?_ (fun hHeld => ?_)
    · exact SA.2
    clear hK K
    try simp only [Act.put, List.setIfInBounds_toArray, List.set_cons_zero, List.set_cons_succ]
    refine wpAnyH_ready (rs := [8]) (by kernel_rfl) (by simp) ?_
    refine (AllReadyH.cons nth8 (fun K hK => ?_) AllReadyH.nil)
    refine step_appT hr rfl (.tmp 24) (.tmp 26) rfl rfl rfl rfl ?_
    refine hK.out _ _ ?_ (fun hHeld => ?_)
    · exact S5.2
    clear hK K
    try simp only [Act.put, List.setIfInBounds_toArray, List.set_cons_zero, List.set_cons_succ]
    refine wpAnyH_take (i := 9) (v := ?_) nth9 (by kernel_rfl) (by kernel_rfl) (by kernel_rfl) (fun _ _ _ h => h) (Or.inl ⟨by rfl, ?_⟩) (by assumption) ?_
    rotate_left
    · intro w hSw; (try dsimp only at hSw); go_simp; try with_reducible rfl
    try simp only [Act.put, List.setIfInBounds_toArray, List.set_cons_zero, List.set_cons_succ]
    refine wpAnyH_take (i := 10) (v := ?_) nth10 (by kernel_rfl) (by kernel_rfl) (by kernel_rfl) (fun _ _ _ h => h) (Or.inl ⟨by rfl, ?_⟩) (by assumption) ?_
    rotate_left
    · intro w hSw; (try dsimp only at hSw); go_simp; try with_reducible rfl
    try simp only [Act.put, List.setIfInBounds_toArray, List.set_cons_zero, List.set_cons_succ]
    refine wpAnyH_take (i := 11) (v := ?_) nth11 (by kernel_rfl) (by kernel_rfl) (by kernel_rfl) (fun _ _ _ h => h) (Or.inl ⟨by rfl, ?_⟩) (by assumption) ?_
    rotate_left
    · intro w hSw; (try dsimp only at hSw); go_simp; try with_reducible rfl
    try simp only [Act.put, List.setIfInBounds_toArray, List.set_cons_zero, List.set_cons_succ]
    refine wpAnyH_ready (rs := [12]) (by kernel_rfl) (by simp) ?_
    refine (AllReadyH.cons nth12 (fun K hK => ?_) AllReadyH.nil)
    go_simp
    refine hK.out _ _ ?_ (fun hHeld => ?_)
    · exact S6
    clear hK K
    try simp only [Act.put, List.setIfInBounds_toArray, List.set_cons_zero, List.set_cons_succ]
    refine wpAnyH_done (by kernel_rfl) ?_ _
    go_wp2_with fail
    go_end0
    exact .inr ⟨rfl, x0, x1, x2, r2, lo, hi, _, pw, cw, rfl, HLO.out, HHI.out, rfl, O6.out, R6.out, U6.out⟩
end Go.Proofs.YtbenloeomjdkcaaGreatDoor.text

namespace Go.Proofs.YtbenloeomjdkcaaGreatDoor.text
open Go.RowKit Go.Proofs.YtbenloeomjdkcaaGreatDoor.mem
set_option linter.unusedVariables false
set_option maxRecDepth 100000

def NodePost (w : World) (b : Nat) (vN vP : Value) (k : Int) (va vc : ByteArray → Int) (ws : List ByteArray) (e : Ending) (w' : World) : Prop :=
  (e = .panicked fell ∧ Pan b k (· = b) w w' ∧ ∀ x r, ws = x :: r → vc x ≠ 0) ∨
  ∃ x r vW, ws = x :: r ∧ vc x = 0 ∧ e = .returned (.int .i64 (va x)) ∧ Ob w' b 4 (parC vN vP k vW) ∧ Ws w' b vW r ∧ Upd (· = b) w w'
set_option maxHeartbeats 4000000 in
theorem node_any (w : World) (b : Nat) (pN pP : Option Addr) (n cN m cP : Nat) (vW : Value) (k : Int) (va vc : ByteArray → Int) (ws : List ByteArray) (h : Ob w b 4 (parC (.slice pN n cN) (.slice pP m cP) k vW)) (g : Ws w b vW ws) (hsz : ∀ x ∈ ws, x.size ≤ 281474976710656)
    (hnn : ∀ (X : World) (s : ByteArray), Upd (· = b) w X → s.size ≤ 281474976710656 → Calls Tryz.prog 95 #[.agg #[.slice pN n cN, .slice pP m cP], .string s] X fun e w' => e = .returned (.tuple #[.int .i64 (va s), .int .i64 (vc s)]) ∧ Below X.heap.size X w') :
    Calls Tryz.prog 82 #[.pointer (some ⟨b, 0, none⟩)] w (NodePost w b (.slice pN n cN) (.slice pP m cP) k va vc ws) := by
  have HNN := Lib.hid hnn
  have HZ := Lib.hid hsz
  clear hnn hsz
  have a0 : w.cell? ⟨b, 0, none⟩ = some (.slice pN n cN) := h.cell 0 (by omega)
  have a1 : w.cell? ⟨b, 1, none⟩ = some (.slice pP m cP) := h.cell 1 (by omega)
  have hd : Ob w.drew b 4 (parC (.slice pN n cN) (.slice pP m cP) k vW) := h.keep rfl
  have U0 : Upd (· = b) w w.drew := ⟨rfl, rfl, rfl, Nat.le_refl _, fun _ _ _ => rfl⟩
  have gd : Ws w.drew b vW ws := g.upd U0
  clear h g
  go_enter Tryz.func82, Tryz.ntmps82
  go_wp2_with fail
  refine wp_region_held_drew (S := (fun w' : World => w'.cell? ⟨b, 0, none⟩ = some (.slice pN n cN) ∧ w'.cell? ⟨b, 1, none⟩ = some (.slice pP m cP))) (by kernel_rfl) ⟨a0, a1⟩ (fun hHeld => ?_)
  refine wpAnyH_take (i := 0) (v := ?_) nth0 (by kernel_rfl) (by kernel_rfl) (by kernel_rfl) (fun _ _ _ h => h) (Or.inl ⟨by rfl, ?_⟩) (by assumption) ?_
  rotate_left
  · intro w hSw; (try dsimp only at hSw); go_simp; try with_reducible rfl
  try simp only [Act.put, List.setIfInBounds_toArray, List.set_cons_zero, List.set_cons_succ]
  refine wpAnyH_take (i := 1) (v := ?_) nth1 (by kernel_rfl) (by kernel_rfl) (by kernel_rfl) (fun _ _ _ h => h) (Or.inl ⟨by rfl, ?_⟩) (by assumption) ?_
  rotate_left
  · intro w hSw; (try dsimp only at hSw); go_simp; try with_reducible rfl
  try simp only [Act.put, List.setIfInBounds_toArray, List.set_cons_zero, List.set_cons_succ]
  refine wpAnyH_take (i := 2) (v := ?_) nth2 (by kernel_rfl) (by kernel_rfl) (by kernel_rfl) (fun _ _ _ h => h) (Or.inl ⟨by rfl, ?_⟩) (by assumption) ?_
  rotate_left
  · intro w hSw; (try dsimp only at hSw); go_simp; try with_reducible rfl
  try simp only [Act.put, List.setIfInBounds_toArray, List.set_cons_zero, List.set_cons_succ]
  refine wpAnyH_take (i := 3) (v := ?_) nth3 (by kernel_rfl) (by kernel_rfl) (by kernel_rfl) (fun _ _ _ h => h) (Or.inl ⟨by rfl, ?_⟩) (by assumption) ?_
  rotate_left
  · intro w hSw; (try dsimp only at hSw); go_simp; try with_reducible rfl
  try simp only [Act.put, List.setIfInBounds_toArray, List.set_cons_zero, List.set_cons_succ]
  refine wpAnyH_take (i := 4) (v := ?_) nth4 (by kernel_rfl) (by kernel_rfl) (by kernel_rfl) (fun _ _ _ h => h) (Or.inl ⟨by rfl, ?_⟩) (by assumption) ?_
  rotate_left
  · intro w hSw; (try dsimp only at hSw); go_simp; try with_reducible rfl
  try simp only [Act.put, List.setIfInBounds_toArray, List.set_cons_zero, List.set_cons_succ]
  refine wpAnyH_ready (rs := [5]) (by kernel_rfl) (by simp) ?_
  refine (AllReadyH.cons nth5 (fun K hK => ?_) AllReadyH.nil)
  go_simp
  go_at_call 64
  refine (word_any w.drew b _ _ vW k ws hd gd).mono ?_
  rintro e w1 (⟨rfl, rfl, rfl⟩ | ⟨x, r, vW1, rfl, rfl, O1, W1, U1⟩)
  · exact ⟨rfl, .inl ⟨rfl, ⟨U0, hd.cell 2 (by omega)⟩, fun x r e => by cases e⟩⟩
  have U1' := U0.trans U1
  have S1 : (fun w' : World => w'.cell? ⟨b, 0, none⟩ = some (.slice pN n cN) ∧ w'.cell? ⟨b, 1, none⟩ = some (.slice pP m cP)) w1 := ⟨O1.cell 0 (by omega), O1.cell 1 (by omega)⟩
  clear U1 hd gd
  refine hK.out _ _ ?_ (fun hHeld => ?_)
  · exact S1
  clear hK K
  try simp only [Act.put, List.setIfInBounds_toArray, List.set_cons_zero, List.set_cons_succ]
  refine wpAnyH_ready (rs := [6]) (by kernel_rfl) (by simp) ?_
  refine (AllReadyH.cons nth6 (fun K hK => ?_) AllReadyH.nil)
  go_simp
  go_at_call 95
  refine (HNN.out w1 x U1' (HZ.out x (List.mem_cons_self ..))).mono ?_
  rintro e w2 ⟨rfl, b2⟩
  have S2 : (fun w' : World => w'.cell? ⟨b, 0, none⟩ = some (.slice pN n cN) ∧ w'.cell? ⟨b, 1, none⟩ = some (.slice pP m cP)) w2 := ⟨(b2.cell (p := ⟨b, 0, none⟩) O1.lt).trans S1.1, (b2.cell (p := ⟨b, 1, none⟩) O1.lt).trans S1.2⟩
  have U2 := Lib.hid (U1'.trans (Upd.of_below b2))
  have O2 := Lib.hid (O1.below b2 O1.lt)
  have W2 := Lib.hid (W1.upd (Upd.of_below b2))
  clear b2 O1 W1 U1'
  refine hK.out _ _ ?_ (fun hHeld => ?_)
  · exact S2
  clear hK K
  try simp only [Act.put, List.setIfInBounds_toArray, List.set_cons_zero, List.set_cons_succ]
  refine wpAnyH_take (i := 7) (v := ?_) nth7 (by kernel_rfl) (by kernel_rfl) (by kernel_rfl) (fun _ _ _ h => h) (Or.inl ⟨by rfl, ?_⟩) (by assumption) ?_
  rotate_left
  · intro w hSw; (try dsimp only at hSw); go_simp; try with_reducible rfl
  try simp only [Act.put, List.setIfInBounds_toArray, List.set_cons_zero, List.set_cons_succ]
  refine wpAnyH_take (i := 8) (v := ?_) nth8 (by kernel_rfl) (by kernel_rfl) (by kernel_rfl) (fun _ _ _ h => h) (Or.inl ⟨by rfl, ?_⟩) (by assumption) ?_
  rotate_left
  · intro w hSw; (try dsimp only at hSw); go_simp; try with_reducible rfl
  try simp only [Act.put, List.setIfInBounds_toArray, List.set_cons_zero, List.set_cons_succ]
  refine wpAnyH_take (i := 9) (v := ?_) nth9 (by kernel_rfl) (by kernel_rfl) (by kernel_rfl) (fun _ _ _ h => h) (Or.inl ⟨by rfl, ?_⟩) (by assumption) ?_
  rotate_left
  · intro w hSw; (try dsimp only at hSw); go_simp; try with_reducible rfl
  try simp only [Act.put, List.setIfInBounds_toArray, List.set_cons_zero, List.set_cons_succ]
  refine wpAnyH_take (i := 10) (v := ?_) nth10 (by kernel_rfl) (by kernel_rfl) (by kernel_rfl) (fun _ _ _ h => h) (Or.inl ⟨by rfl, ?_⟩) (by assumption) ?_
  rotate_left
  · intro w hSw; (try dsimp only at hSw); go_simp; try with_reducible rfl
  try simp only [Act.put, List.setIfInBounds_toArray, List.set_cons_zero, List.set_cons_succ]
  refine wpAnyH_take (i := 11) (v := ?_) nth11 (by kernel_rfl) (by kernel_rfl) (by kernel_rfl) (fun _ _ _ h => h) (Or.inl ⟨by rfl, ?_⟩) (by assumption) ?_
  rotate_left
  · intro w hSw; (try dsimp only at hSw); go_simp; try with_reducible rfl
  try simp only [Act.put, List.setIfInBounds_toArray, List.set_cons_zero, List.set_cons_succ]
  refine wpAnyH_done (by kernel_rfl) ?_ _
  generalize hc : vc x = c
  have HC := Lib.hid hc
  clear hc S1 S2
  by_cases hz : c = 0
  · subst hz
    go_wp2_with fail
    go_ret
    exact .inr ⟨x, r, vW1, rfl, HC.out, rfl, O2.out, W2.out, U2.out⟩
  · have hz' : (c != 0) = true := by simpa using hz
    have HZ2 := Lib.hid hz
    clear hz
    go_wp2_with (first | (go_at_call 46; refine (fail_any _ _).mono ?_; rintro e w' ⟨rfl, rfl⟩))
    exact ⟨rfl, .inl ⟨rfl, ⟨U2.out, O2.out.cell 2 (by omega)⟩, fun x' r' e => by injection e with e1 _; subst e1; rw [HC.out]; exact HZ2.out⟩⟩
theorem readPipe_none (w : World) (b : Nat) (pN pP : Option Addr) (n cN m cP : Nat) (vW : Value) (k : Int) (va vc : ByteArray → Int) (ws : List ByteArray) (h : Ob w b 4 (parC (.slice pN n cN) (.slice pP m cP) k vW)) (g : Ws w b vW ws) (hsz : ∀ x ∈ ws, x.size ≤ 281474976710656)
    (hnn : ∀ (X : World) (s : ByteArray), Upd (· = b) w X → s.size ≤ 281474976710656 → Calls Tryz.prog 95 #[.agg #[.slice pN n cN, .slice pP m cP], .string s] X fun e w' => e = .returned (.tuple #[.int .i64 (va s), .int .i64 (vc s)]) ∧ Below X.heap.size X w') (hvc : ∀ s, vc s ≠ 0) :
    Calls Tryz.prog 66 #[.pointer (some ⟨b, 0, none⟩)] w fun e w' => e = .panicked fell ∧ Upd (· = b) w w' := by
  go_enter Tryz.func66, Tryz.ntmps66
  go_wp2_with fail
  refine (node_any w b pN pP n cN m cP vW k va vc ws h g hsz hnn).mono ?_
  rintro e w1 (⟨rfl, U1, _⟩ | ⟨x, r, vW1, _, hz, _⟩)
  · exact ⟨rfl, rfl, U1.upd⟩
  · exact absurd hz (hvc x)
end Go.Proofs.YtbenloeomjdkcaaGreatDoor.text

namespace Go.Proofs.YtbenloeomjdkcaaGreatDoor.text
open Go.RowKit Go.Proofs.YtbenloeomjdkcaaGreatDoor.mem
set_option linter.unusedVariables false
set_option maxRecDepth 100000

set_option maxHeartbeats 2000000 in
theorem nodeNamed_none (w : World) (v : Value) (n : Nat) (N : Nat → Nod) (m : Nat) (P : Nat → Pip) (lo hi : Nat) (h : NetAt w v n N m P lo hi) (hhi : hi ≤ w.heap.size) (hN : ∀ i, i < n → (N i).s.size ≤ 9223372036854775807) (h1 : netB n N m P = false) (s : ByteArray) :
    Calls Tryz.prog 95 #[v, .string s] w fun e w' => e = .returned (.tuple #[.int .i64 0, .int .i64 1]) ∧ Below w.heap.size w w' := by
  obtain ⟨v0, v1, rfl, g0, g1⟩ := h.ex
  obtain ⟨p0, c0, rfl⟩ := g0.shape
  obtain ⟨p1, c1, rfl⟩ := g1.shape
  have H := Lib.hid h
  have HN := Lib.hid hN
  clear h hN g0 g1
  have A1 := boxed w (.slice p0 n c0) (.slice p1 m c1) 25
  have C1 := below_new w (.cells #[.slice p0 n c0, .slice p1 m c1] 25)
  have hs1 := C1.size
  go_enter Tryz.func95, Tryz.ntmps95
  go_wp2_with fail
  generalize hW : w.alloc (Obj.cells #[.slice p0 n c0, .slice p1 m c1] 25) = w1 at *
  clear hW
  refine (isNetwork_any w1 _ n N m P lo hi (H.out.below C1 hhi) (by omega) HN.out).mono ?_
  rintro e w2 ⟨rfl, b2⟩
  have C2 := Lib.hid (C1.trans (b2.mono hs1))
  clear A1 C1 b2
  rw [h1]
  go_wp2_with fail
  refine bodyPost_ret (v := .tuple #[.int .i64 0, .int .i64 1]) (by simp [results, Tryz.results95, go_sem]) rfl ⟨rfl, C2.out⟩
theorem netB_zero (N : Nat → Nod) (P : Nat → Pip) : netB 0 N 0 P = false := by
  unfold netB szB
  simp
theorem netB_one (q : Nod) (P : Nat → Pip) : netB 1 (fun _ => q) 0 P = nodB q := by
  have h1 : szB 1 0 = true := szB_iff.2 ⟨by omega, by omega, by omega⟩
  have h2 : pipesB 1 P 0 = true := pipesB_iff.2 (fun i hi => by omega)
  unfold netB
  rw [h1, h2]
  simp only [Bool.true_and, Bool.and_true]
  rw [Bool.eq_iff_iff, nodesB_iff]
  exact ⟨fun h => h.1 0 (by omega), fun h => ⟨fun i _ => h, fun i j h1 h2 => by omega⟩⟩
theorem ba_of {x : ByteArray} {l : List UInt8} (e : x.data.toList = l) : x = ⟨l.toArray⟩ := by
  subst e
  rfl
theorem line_pieces {s : ByteArray} {ps : List ByteArray} (hps : ps.map (·.data.toList) = sp 6 s.data.toList) {q : Nod} (hq : nodB q = true) (h : nodeL q = s.data.toList) : ∃ y1 y2, ps = [⟨wNode.toArray⟩, q.s, y1, y2] ∧ y1.data.toList = Lib.decDigits q.lo.toNat ∧ y2.data.toList = Lib.decDigits q.hi.toNat := by
  rw [← h, sp_node hq 3] at hps
  have toB : ∀ (x : ByteArray) (l : List UInt8), x.data.toList = l → x = ⟨l.toArray⟩ := fun x l e => by
    subst e
    rfl
  rcases ps with _ | ⟨x0, _ | ⟨x1, _ | ⟨x2, _ | ⟨x3, _ | ⟨x4, r⟩⟩⟩⟩⟩
  all_goals simp at hps
  obtain ⟨h0, h1, h2, h3⟩ := hps
  refine ⟨x2, x3, ?_, h2, h3⟩
  rw [toB x0 _ h0, ByteArray.ext h1]
theorem line_of {s x0 x1 x2 : ByteArray} {lo hi : Int} (hps : [(⟨wNode.toArray⟩ : ByteArray), x0, x1, x2].map (·.data.toList) = sp 6 s.data.toList) (h1 : NumOK x1.data.toList lo) (h2 : NumOK x2.data.toList hi) (hq : nodB ⟨x0, lo, hi⟩ = true) : nodeL ⟨x0, lo, hi⟩ = s.data.toList := by
  obtain ⟨_, a, b⟩ := nod_bd hq
  have e : s.data.toList = wNode ++ 32 :: (x0.data.toList ++ 32 :: (x1.data.toList ++ 32 :: x2.data.toList)) := sp_cat4 hps.symm
  have e1 : Lib.decDigits lo.toNat = x1.data.toList := (itoa_nat a.1).symm.trans h1.2
  have e2 : Lib.decDigits hi.toNat = x2.data.toList := (itoa_nat b.1).symm.trans h2.2
  rw [e, nodeL_cat]
  show wNode ++ 32 :: (x0.data.toList ++ 32 :: (Lib.decDigits lo.toNat ++ 32 :: Lib.decDigits hi.toNat)) = _
  rw [e1, e2]
theorem numOK_uniq {l : List UInt8} {x y : Int} (h : NumOK l x) (g : NumOK l y) : x = y := by
  have := h.1.symm.trans g.1
  injection this

def RLPost (w : World) (b B : Nat) (s : ByteArray) (e : Ending) (w' : World) : Prop :=
  (e = .panicked fell ∧ Upd (fun x => x = b ∨ B ≤ x) w w' ∧ ∀ q, nodB q = true → nodeL q ≠ s.data.toList) ∨
  ∃ q vN vW, nodB q = true ∧ nodeL q = s.data.toList ∧ e = .returned (.tuple #[]) ∧ Ob w' b 4 (parC vN (.slice none 0 0) 0 vW) ∧ RN B w' vN 1 (nodC fun _ => q) ∧ Upd (fun x => x = b ∨ B ≤ x) w w'
theorem cellsOf_get (ps : List ByteArray) (n i : Nat) (x : ByteArray) (hx : ps[i]? = some x) : (Lib.cellsOf ps n)[i]? = some (.string x) := by
  unfold Lib.cellsOf
  have hi : i < ps.length := (List.getElem?_eq_some_iff.1 hx).1
  simp [hi, List.getElem?_append_left]
  exact (List.getElem?_eq_some_iff.1 hx).2
theorem _root_.Go.Proofs.YtbenloeomjdkcaaGreatDoor.mem.RowE.congr1 {B : Nat} {w : World} {p : Option Addr} {c : Nat} {q : Nod} {N : Nat → Nod} (h : RN B w (.slice p (0 + 1) c) (0 + 1) (nodC (addN N 0 q))) : RN B w (.slice p (0 + 1) c) 1 (nodC fun _ => q) := by
  have e : nodC (addN N 0 q) = nodC fun _ => q := by
    funext i j
    unfold nodC addN
    simp
  rw [e] at h
  exact h
set_option maxHeartbeats 4000000 in
theorem readLine_any (w0 w : World) (b B : Nat) (vW : Value) (s : ByteArray) (h : Ob w b 4 (parC (.slice none 0 0) (.slice none 0 0) 0 vW)) (hbB : b < B) (hBw : B ≤ w.heap.size) (hE : Env w0) (h0 : Below w0.heap.size w0 w) (hb : w0.heap.size ≤ b) (hs : s.size ≤ 1048576) :
    Calls Tryz.prog 47 #[.pointer (some ⟨b, 0, none⟩), .string s] w (RLPost w b B s) := by
  have HE := Lib.hid hE
  have H0 := Lib.hid h0
  obtain ⟨mx, hmx⟩ := (env_below hE h0).maxlen
  clear hE h0
  obtain ⟨ps, hps0⟩ : ∃ ps, ps = Lib.splitB ⟨#[32]⟩ 0 (min 7 (s.size + 1) - 1) s := ⟨_, rfl⟩
  obtain ⟨cp, hcp⟩ : ∃ cp, cp = min 7 (s.size + 1) := ⟨_, rfl⟩
  have hps : ps.map (·.data.toList) = sp 6 s.data.toList := by rw [hps0]; exact splitB_sp 6 s
  have hpl : ps.length ≤ cp := by rw [hps0, hcp]; have := Lib.splitB_length_le ⟨#[32]⟩ 0 (min 7 (s.size + 1) - 1) s; omega
  have hcp7 : cp ≤ 7 := by omega
  have hsp := Tryz.strings_SplitN s ⟨#[32]⟩ 7 mx w (by omega) hmx (by decide) (by omega) (by omega)
  rw [← hps0, ← hcp] at hsp
  obtain ⟨w1, hw1⟩ : ∃ w1, w1 = w.alloc (.cells (Lib.cellsOf ps cp) 9) := ⟨_, rfl⟩
  have HSP := Lib.hid (hsp.mono (fun e w' h => ⟨h.1, hw1.trans h.2.symm⟩) : Calls Tryz.prog 63 #[.string s, .string ⟨#[32]⟩, .int .i64 7] w fun e w' => e = .returned (.slice (some ⟨w.heap.size, 0, none⟩) ps.length cp) ∧ w1 = w')
  have hb1 : Below w.heap.size w w1 := by rw [hw1]; exact below_new _ _
  have hz1 : w1.heap.size = w.heap.size + 1 := by rw [hw1]; simp
  have hc1 : ∀ (i : Nat) x, ps[i]? = some x → w1.cell? ⟨w.heap.size, 0 + i, none⟩ = some (.string x) := fun i x hx => by
    have e := heap_alloc_new w (.cells (Lib.cellsOf ps cp) 9)
    rw [hw1]
    simp only [World.cell?, e]
    have := cellsOf_get ps cp i x hx
    simpa using this
  replace hz1 := Nat.le_antisymm_iff.1 hz1
  clear hw1
  have HPS := Lib.hid hps
  have hpsz : ∀ x ∈ ps, x.size ≤ 281474976710656 := fun x hx => by
    have h1 : x.data.toList ∈ sp 6 s.data.toList := by rw [← hps]; exact List.mem_map_of_mem hx
    have h2 := sp_size _ _ _ h1
    have e1 : x.data.toList.length = x.size := Array.length_toList
    have e2 : s.data.toList.length = s.size := Array.length_toList
    omega
  have HPZ := Lib.hid hpsz
  clear hsp hps hpsz hps0 hcp hmx
  have hbl := h.lt
  -- the words in a row of their own
  have O1 := h.below hb1 hbl
  have f3' : w1.frozen? ⟨b, 3, none⟩ = false := O1.free 3
  have g3' : w1.cell? ⟨b, 3, none⟩ = some vW := O1.cell 3 (by omega)
  have W1 : Ws w1 b (.slice (some ⟨w.heap.size, 0, none⟩) ps.length cp) ps := ⟨_, cp, rfl, hpl, by omega, .inr ⟨w.heap.size, 0, rfl, by omega, by omega, hc1⟩⟩
  have hO := (Only.refl b w1).setCell 3 (.slice (some ⟨w.heap.size, 0, none⟩) ps.length cp)
  have O2 := (O1.set 3 (.slice (some ⟨w.heap.size, 0, none⟩) ps.length cp) (by omega)).congr (e := parC (.slice none 0 0) (.slice none 0 0) 0 (.slice (some ⟨w.heap.size, 0, none⟩) ps.length cp)) (fun j hj => by rcases (by omega : j = 0 ∨ j = 1 ∨ j = 2 ∨ j = 3) with rfl | rfl | rfl | rfl <;> rfl)
  have W2 := W1.upd (Upd.of_only hO)
  have U2 : Upd (· = b) w _ := (Upd.of_below hb1).trans (Upd.of_only hO)
  clear O1 W1 hO h hc1 hb1
  go_enter Tryz.func47, Tryz.ntmps47
  go_wp2_with (first | (go_at_call 63; refine HSP.out.mono ?_; rintro e w' ⟨rfl, rfl⟩))
  generalize hW : w1.setCell ⟨b, 3, none⟩ (.slice (some ⟨w.heap.size, 0, none⟩) ps.length cp) = w2 at *
  clear hW f3' g3'
  have bw : ∀ X : World, Upd (· = b) w X → Below w0.heap.size w0 X := fun X u => H0.out.trans (u.below H0.out.size (by rintro q _ rfl; exact hb))
  have BW := Lib.hid bw
  have hB2 : B ≤ w2.heap.size := Nat.le_trans hBw U2.size
  refine (word_any w2 b _ _ _ 0 ps O2 W2).mono ?_
  rintro e w3 (⟨hnil, rfl, rfl⟩ | ⟨x, r, vW3, hxr, rfl, O3, W3, U3⟩)
  · subst hnil
    exact ⟨rfl, .inl ⟨rfl, upd_or U2, fun q hq e => by obtain ⟨_, _, h1, _⟩ := line_pieces HPS.out hq e; cases h1⟩⟩
  have U23 := U2.trans U3
  clear U2 U3 O2 W2 bw
  have hB3 : B ≤ w3.heap.size := Nat.le_trans hBw U23.size
  by_cases hn : x = ⟨wNode.toArray⟩
  · have hx : x = ⟨#[110, 111, 100, 101]⟩ := hn
    subst hx
    have HXR := Lib.hid hxr
    have B3 := BW.out _ U23
    have hr : ∀ y ∈ r, y.size ≤ 281474976710656 := fun y hy => HPZ.out y (by rw [HXR.out]; exact List.mem_cons_of_mem _ hy)
    have HU := Lib.hid U23
    clear hxr U23
    go_wp2_with fail
    refine (readNode_any w0 w3 b B 0 (fun _ => ⟨⟨#[]⟩, 0, 0⟩) (.slice none 0 0) vW3 none 0 0 0 r O3 W3 ⟨World.ownsRow_nil _ _ _ _⟩ hbB hB3 (by omega) HE.out B3 hb hr).mono ?_
    rintro e w4 (⟨rfl, U4, hno⟩ | ⟨_, x0, x1, x2, r2, lo, hi, vN, pw, cw, hr2, n1, n2, rfl, O4, R4, U4⟩)
    · refine ⟨rfl, .inl ⟨rfl, (upd_or HU.out).trans U4.upd, fun q hq e => ?_⟩⟩
      obtain ⟨y1, y2, h1, h2, h3⟩ := line_pieces HPS.out hq e
      rw [HXR.out] at h1
      injection h1 with _ h1
      obtain ⟨_, a2, a3⟩ := nod_bd hq
      exact hno rfl _ _ _ [] q.lo q.hi h1 (by rw [h2]; exact numOK_dec a2.1 (by omega)) (by rw [h3]; exact numOK_dec a3.1 (by omega))
    have UU := Lib.hid ((upd_or HU.out).trans U4)
    have N1 := Lib.hid n1
    have N2 := Lib.hid n2
    have hB4 : B ≤ w4.heap.size := Nat.le_trans hB3 U4.size
    have HR2 := Lib.hid hr2
    clear U4 n1 n2 hr2 hr B3 O3 W3 HU
    obtain ⟨p4, c4, rfl⟩ := RowE.shape R4
    have a0 : w4.cell? ⟨b, 0, none⟩ = some (.slice p4 (0 + 1) c4) := O4.cell 0 (by omega)
    have a1 : w4.cell? ⟨b, 1, none⟩ = some (.slice none 0 0) := O4.cell 1 (by omega)
    have a3 : w4.cell? ⟨b, 3, none⟩ = some (.slice pw r2.length cw) := O4.cell 3 (by omega)
    have O4H := Lib.hid O4
    have R4H := Lib.hid R4
    rcases r2 with _ | ⟨y, r3⟩
    · obtain ⟨gn, S4, _⟩ := RowE.ownS R4.congr1
      have hNA : NetAt w4 (.agg #[.slice p4 1 c4, .slice none 0 0]) 1 (fun _ => ⟨x0, lo, hi⟩) 0 (fun _ => ⟨0, 0, 0, 0, 0⟩) 0 w4.heap.size := ⟨_, _, rfl, S4.cs (.inr rfl) (Nat.le_refl _), Cs.none_ _ _ _ _ _⟩
      have hz0 : x0.size ≤ 281474976710656 := HPZ.out x0 (by rw [HXR.out, HR2.out]; simp)
      have HNA := Lib.hid hNA
      clear O4 R4 S4 hNA
      go_wp2_with fail
      refine (isNetwork_any w4 _ 1 _ 0 _ 0 _ HNA.out (Nat.le_refl _) (fun i _ => by show x0.size ≤ _; omega)).mono ?_
      rintro e w5 ⟨rfl, b5⟩
      rw [netB_one]
      have U5 := Lib.hid (UU.out.trans (Upd.of_below b5))
      have O5 := Lib.hid (O4H.out.below b5 O4H.out.lt)
      have R5 := Lib.hid (RowE.next R4H.out b5)
      clear b5 a0 a1 a3
      cases hq : nodB ⟨x0, lo, hi⟩
      · have HQ := Lib.hid hq
        clear hq
        go_wp2_with (first | (go_at_call 46; refine (fail_any _ _).mono ?_; rintro e w' ⟨rfl, rfl⟩))
        refine ⟨rfl, .inl ⟨rfl, U5.out, fun q hq e => ?_⟩⟩
        obtain ⟨y1, y2, h1, h2, h3⟩ := line_pieces HPS.out hq e
        rw [HXR.out, HR2.out] at h1
        simp only [List.cons.injEq, and_true] at h1
        obtain ⟨_, rfl, rfl, rfl⟩ := h1
        obtain ⟨_, a2, a3⟩ := nod_bd hq
        have e1 := numOK_uniq N1.out (by rw [h2]; exact numOK_dec a2.1 (by omega))
        have e2 := numOK_uniq N2.out (by rw [h3]; exact numOK_dec a3.1 (by omega))
        subst e1 e2
        have := HQ.out.symm.trans hq
        cases this
      · have HQ := Lib.hid hq
        clear hq
        go_wp2_with fail
        go_end0
        refine .inr ⟨⟨x0, lo, hi⟩, _, _, HQ.out, line_of (by have := HPS.out; rw [HXR.out, HR2.out] at this; exact this) N1.out N2.out HQ.out, rfl, O5.out, ?_, U5.out⟩
        exact R5.out.congr1
    · have hlI : (0 : Int) < ((r3.length + 1 : Nat) : Int) := by omega
      simp only [List.length_cons] at a3
      clear O4 R4
      go_wp2_with (first | (go_at_call 46; refine (fail_any _ _).mono ?_; rintro e w' ⟨rfl, rfl⟩))
      refine ⟨rfl, .inl ⟨rfl, UU.out, fun q hq e => ?_⟩⟩
      obtain ⟨y1, y2, h1, h2, h3⟩ := line_pieces HPS.out hq e
      rw [HXR.out, HR2.out] at h1
      simp at h1
  have hnq : Hid (∀ q, nodB q = true → nodeL q ≠ s.data.toList) := Lib.hid (fun q hq e => by
    obtain ⟨y1, y2, h1, h2, h3⟩ := line_pieces HPS.out hq e
    rw [hxr] at h1
    injection h1 with h1 _
    exact hn h1)
  have t1 : (x.toList == [110, 111, 100, 101]) = false := by rw [beq_eq_false_iff_ne, Go.ByteArray.toList_eq]; exact fun e => hn (ba_of e)
  have B3 := BW.out _ U23
  have hr : ∀ y ∈ r, y.size ≤ 281474976710656 := fun y hy => HPZ.out y (by rw [hxr]; exact List.mem_cons_of_mem _ hy)
  have HU := Lib.hid U23
  clear hn U23 hxr
  by_cases hp : x = ⟨#[112, 105, 112, 101]⟩
  · subst hp
    clear t1
    go_wp2_with fail
    refine (readPipe_none w3 b none none 0 0 0 0 vW3 0 (fun _ => 0) (fun _ => 1) r O3 W3 hr (fun X z u hz => nodeNamed_none X _ 0 (fun _ => ⟨⟨#[]⟩, 0, 0⟩) 0 (fun _ => ⟨0, 0, 0, 0, 0⟩) 0 0 ⟨_, _, rfl, Cs.none_ _ _ _ _ _, Cs.none_ _ _ _ _ _⟩ (Nat.zero_le _) (fun i hi => by omega) (netB_zero _ _) z) (fun _ => by decide)).mono ?_
    rintro e w4 ⟨rfl, U4⟩
    exact ⟨rfl, .inl ⟨rfl, upd_or (HU.out.trans U4), hnq.out⟩⟩
  · have t2 : (x.toList == [112, 105, 112, 101]) = false := by rw [beq_eq_false_iff_ne, Go.ByteArray.toList_eq]; exact fun e => hp (ba_of e)
    clear hp
    go_wp2_with (first | (go_at_call 46; refine (fail_any _ _).mono ?_; rintro e w' ⟨rfl, rfl⟩))
    exact ⟨rfl, .inl ⟨rfl, upd_or HU.out, hnq.out⟩⟩
end Go.Proofs.YtbenloeomjdkcaaGreatDoor.text

namespace Go.Proofs.YtbenloeomjdkcaaGreatDoor.text
open Go.RowKit Go.Proofs.YtbenloeomjdkcaaGreatDoor.mem
set_option linter.unusedVariables false
set_option maxRecDepth 100000

abbrev RP (B : Nat) := RowE B 62 5
def addP (P : Nat → Pip) (n : Nat) (q : Pip) : Nat → Pip := fun i => if i < n then P i else q
theorem appPip (B : Nat) (W : World) (v : Value) (n : Nat) (P : Nat → Pip) (q : Pip) (h : RP B W v n (pipC P)) (hB : B ≤ W.heap.size) (hn : n ≤ 1000000) :
    ∃ v' w', Sem.run Tryz.prog (Builtin.append_ #[23, 23] 23 #[v, .slice (some ⟨W.heap.size, 0, none⟩) 1 1]) (W.alloc (.cells #[.int .i64 q.f, .int .i64 q.t, .int .i64 q.k, .int .i64 q.v, .int .i64 q.l] 62)) = .ok v' w' ∧ RP B w' v' (n + 1) (pipC (addP P n q)) ∧ Upd (fun x => some x = v.ownBlock) W w' :=
  appOne Tryz.underlying23 info_make_pipe (by omega) rfl (by omega) B W v n _ _ h hB [.int .i64 q.f, .int .i64 q.t, .int .i64 q.k, .int .i64 q.v, .int .i64 q.l] rfl (by intro u hu; simp at hu; rcases hu with rfl | rfl | rfl | rfl | rfl <;> rfl)
    (fun i j hi hj => by rcases (by omega : j = 0 ∨ j = 1 ∨ j = 2 ∨ j = 3 ∨ j = 4) with rfl | rfl | rfl | rfl | rfl <;> simp [pipC, addP, hi])
    (fun j hj => by rcases (by omega : j = 0 ∨ j = 1 ∨ j = 2 ∨ j = 3 ∨ j = 4) with rfl | rfl | rfl | rfl | rfl <;> simp [pipC, addP]) hn
theorem boxedP (w : World) (x : Pip) (t : TypeId) : Ob (w.alloc (.cells #[.int .i64 x.f, .int .i64 x.t, .int .i64 x.k, .int .i64 x.v, .int .i64 x.l] t)) w.heap.size 5 (fun k => match k with
    | 0 => .int .i64 x.f
    | 1 => .int .i64 x.t
    | 2 => .int .i64 x.k
    | 3 => .int .i64 x.v
    | _ => .int .i64 x.l) := Ob.new w _ _ 5 _ rfl (by intro k hk; rcases (by omega : k = 0 ∨ k = 1 ∨ k = 2 ∨ k = 3 ∨ k = 4) with rfl | rfl | rfl | rfl | rfl <;> rfl)

theorem upd_or2 {b : Nat} {o : Option Nat} {w w' : World} (h : Upd (· = b) w w') : Upd (fun x => x = b ∨ some x = o) w w' := h.mono (fun k _ e => .inl e)
def RPPost (w : World) (b B : Nat) (vN vP : Value) (m : Nat) (P : Nat → Pip) (k : Int) (va vc : ByteArray → Int) (ws : List ByteArray) (e : Ending) (w' : World) : Prop :=
  (e = .panicked fell ∧ Pan b k (fun x => x = b ∨ some x = vP.ownBlock) w w' ∧ ∀ x0 x1 x2 x3 x4 r kk vv ll, ws = x0 :: x1 :: x2 :: x3 :: x4 :: r → vc x0 = 0 → vc x1 = 0 → NumOK x2.data.toList kk → NumOK x3.data.toList vv → NumOK x4.data.toList ll → False) ∨
  ∃ x0 x1 x2 x3 x4 r kk vv ll vP' pw cw, ws = x0 :: x1 :: x2 :: x3 :: x4 :: r ∧ vc x0 = 0 ∧ vc x1 = 0 ∧ NumOK x2.data.toList kk ∧ NumOK x3.data.toList vv ∧ NumOK x4.data.toList ll ∧ e = .returned (.tuple #[]) ∧ Ob w' b 4 (parC vN vP' k (.slice pw r.length cw)) ∧ RP B w' vP' (m + 1) (pipC (addP P m ⟨va x0, va x1, kk, vv, ll⟩)) ∧ Upd (fun x => x = b ∨ some x = vP.ownBlock) w w'

set_option maxHeartbeats 4000000 in
theorem readPipe_any (w0 w : World) (b B n m cN cP : Nat) (pN pP : Option Addr) (P : Nat → Pip) (vW : Value) (k : Int) (va vc : ByteArray → Int) (ws : List ByteArray) (h : Ob w b 4 (parC (.slice pN n cN) (.slice pP m cP) k vW)) (g : Ws w b vW ws) (hR : RP B w (.slice pP m cP) m (pipC P)) (hbB : b < B) (hBw : B ≤ w.heap.size) (hm : m ≤ 1000)
    (hE : Env w0) (h0 : Below w0.heap.size w0 w) (hb : w0.heap.size ≤ b) (hsz : ∀ x ∈ ws, x.size ≤ 281474976710656)
    (hnn : ∀ (X : World) (s : ByteArray), Upd (· = b) w X → s.size ≤ 281474976710656 → Calls Tryz.prog 95 #[.agg #[.slice pN n cN, .slice pP m cP], .string s] X fun e w' => e = .returned (.tuple #[.int .i64 (va s), .int .i64 (vc s)]) ∧ Below X.heap.size X w') :
    Calls Tryz.prog 66 #[.pointer (some ⟨b, 0, none⟩)] w (RPPost w b B (.slice pN n cN) (.slice pP m cP) m P k va vc ws) := by
  have HE := Lib.hid hE
  have H0 := Lib.hid h0
  have HZ := Lib.hid hsz
  have HNN := Lib.hid hnn
  clear hE h0 hsz hnn
  go_enter Tryz.func66, Tryz.ntmps66
  have bw : ∀ {X : World}, Upd (· = b) w X → Below w0.heap.size w0 X := fun u => H0.out.trans (u.below H0.out.size (by rintro q _ rfl; exact hb))
  go_wp2_with fail
  refine (node_any w b pN pP n cN m cP vW k va vc ws h g HZ.out HNN.out).mono ?_
  rintro e w1 (⟨rfl, U1, hno⟩ | ⟨x0, r1, vW1, rfl, hc0, rfl, O1, W1, U1⟩)
  · exact ⟨rfl, .inl ⟨rfl, U1.mono (fun _ e => .inl e), fun y0 y1 y2 y3 y4 r kk vv ll e a0 a1 n2 n3 n4 => hno y0 _ e a0⟩⟩
  have HC0 := Lib.hid hc0
  clear h g hc0
  go_wp2_with fail
  refine (node_any w1 b pN pP n cN m cP vW1 k va vc r1 O1 W1 (fun x hx => HZ.out x (List.mem_cons_of_mem _ hx)) (fun X s u hs => HNN.out X s (U1.trans u) hs)).mono ?_
  rintro e w2 (⟨rfl, U2, hno⟩ | ⟨x1, r2, vW2, rfl, hc1, rfl, O2, W2, U2⟩)
  · exact ⟨rfl, .inl ⟨rfl, (U2.pre U1).mono (fun _ e => .inl e), fun y0 y1 y2 y3 y4 r kk vv ll e a0 a1 n2 n3 n4 => by
      injection e with e0 e1
      exact hno y1 _ e1 a1⟩⟩
  have UU2 := U1.trans U2
  have HC1 := Lib.hid hc1
  clear U1 U2 O1 W1 hc1
  go_wp2_with fail
  refine (number_any w0 w2 b _ _ vW2 k r2 O2 W2 HE.out (bw UU2) hb (fun x hx => HZ.out x (by simp [hx]))).mono ?_
  rintro e w3 (⟨rfl, U3, hno⟩ | ⟨x2, r3, vW3, kk, rfl, hn2, rfl, O3, W3, U3⟩)
  · exact ⟨rfl, .inl ⟨rfl, (U3.pre UU2).mono (fun _ e => .inl e), fun y0 y1 y2 y3 y4 r kk vv ll e a0 a1 n2 n3 n4 => by
      injection e with e0 e1
      injection e1 with e1 e2
      exact hno y2 _ e2 kk n2⟩⟩
  have UU3 := UU2.trans U3
  have HK := Lib.hid hn2
  clear UU2 U3 O2 W2 hn2
  go_wp2_with fail
  refine (number_any w0 w3 b _ _ vW3 k r3 O3 W3 HE.out (bw UU3) hb (fun x hx => HZ.out x (by simp [hx]))).mono ?_
  rintro e w4 (⟨rfl, U4, hno⟩ | ⟨x3, r4, vW4, vv, rfl, hn3, rfl, O4, W4, U4⟩)
  · exact ⟨rfl, .inl ⟨rfl, (U4.pre UU3).mono (fun _ e => .inl e), fun y0 y1 y2 y3 y4 r kk vv ll e a0 a1 n2 n3 n4 => by
      injection e with e0 e1
      injection e1 with e1 e2
      injection e2 with e2 e3
      exact hno y3 _ e3 vv n3⟩⟩
  have UU4 := UU3.trans U4
  have HV := Lib.hid hn3
  clear UU3 U4 O3 W3 hn3
  go_wp2_with fail
  refine (number_any w0 w4 b _ _ vW4 k r4 O4 W4 HE.out (bw UU4) hb (fun x hx => HZ.out x (by simp [hx]))).mono ?_
  rintro e w6 (⟨rfl, U5, hno⟩ | ⟨x4, r5, vW5, ll, rfl, hn4, rfl, O5, W5, U5⟩)
  · exact ⟨rfl, .inl ⟨rfl, (U5.pre UU4).mono (fun _ e => .inl e), fun y0 y1 y2 y3 y4 r kk vv ll e a0 a1 n2 n3 n4 => by
      injection e with e0 e1
      injection e1 with e1 e2
      injection e2 with e2 e3
      injection e3 with e3 e4
      exact hno y4 _ e4 ll n4⟩⟩
  have UU5 := Lib.hid (UU4.trans U5)
  have HL := Lib.hid hn4
  obtain ⟨pw, cw, rfl, -⟩ := W5.ex
  have R3 := hR.low (UU4.trans U5) hbB
  have hs3 := (UU4.trans U5).size
  clear U5 O4 W4 UU4 hn4 hR W5
  have V1 := boxedP w6 ⟨va x0, va x1, kk, vv, ll⟩ 62
  have b1 := below_new w6 (.cells #[.int .i64 (va x0), .int .i64 (va x1), .int .i64 kk, .int .i64 vv, .int .i64 ll] 62)
  go_wp2_with fail
  generalize hW : w6.alloc (Obj.cells #[.int .i64 (va x0), .int .i64 (va x1), .int .i64 kk, .int .i64 vv, .int .i64 ll] 62) = w7 at *
  clear hW
  have O7 := O5.below b1 O5.lt
  have R4 := RowE.next R3 b1
  have hs4 := b1.size
  have hv4 := V1.lt
  obtain ⟨v8, w8, hr0, R5, u5⟩ := appPip B w7.drew (.slice pP m cP) m P ⟨va x0, va x1, kk, vv, ll⟩ (R4.keep (Upd.refl (fun _ => False) w7 |>.trans ⟨rfl, rfl, rfl, Nat.le_refl _, fun _ _ _ => rfl⟩) (fun _ _ e => e)) (by show B ≤ w7.heap.size; omega) (by omega)
  obtain ⟨p5, c5, rfl⟩ := RowE.shape R5
  have hr : Sem.run Tryz.prog (Builtin.append_ #[23, 23] 23 #[.slice pP m cP, .slice (some ⟨w7.heap.size, 0, none⟩) 1 1]) (w7.alloc (.cells #[.int .i64 (va x0), .int .i64 (va x1), .int .i64 kk, .int .i64 vv, .int .i64 ll] 62)).drew = .ok (.slice p5 (m + 1) c5) w8 := hr0
  clear hr0
  have u4 : Upd (fun x => some x = (Value.slice pP m cP).ownBlock) w7 w8 := ⟨u5.os, u5.tape, u5.output, u5.size, u5.block⟩
  have hob : ∀ x, some x = (Value.slice pP m cP).ownBlock → B ≤ x := fun x e => (R4.own.lt x e.symm).1
  have O8 := O7.keep (u4.block b O7.lt (fun e => by have := hob b e; omega))
  have V5 : Ob w8 w6.heap.size 5 _ := V1.keep (u4.block _ hv4 (fun e => by have := (R3.own.lt _ e.symm).2; omega))
  have a0 : w7.cell? ⟨b, 1, none⟩ = some (.slice pP m cP) := O7.cell 1 (by omega)
  have q0 : w7.cell? ⟨w6.heap.size, 0, none⟩ = some (.int .i64 (va x0)) := V1.cell 0 (by omega)
  have q1 : w7.cell? ⟨w6.heap.size, 1, none⟩ = some (.int .i64 (va x1)) := V1.cell 1 (by omega)
  have q2 : w7.cell? ⟨w6.heap.size, 2, none⟩ = some (.int .i64 kk) := V1.cell 2 (by omega)
  have q3 : w7.cell? ⟨w6.heap.size, 3, none⟩ = some (.int .i64 vv) := V1.cell 3 (by omega)
  have q4 : w7.cell? ⟨w6.heap.size, 4, none⟩ = some (.int .i64 ll) := V1.cell 4 (by omega)
  have S5 : (fun w' : World => w'.cell? ⟨b, 1, none⟩ = some (.slice pP m cP) ∧ w'.cell? ⟨w6.heap.size, 0, none⟩ = some (.int .i64 (va x0)) ∧ w'.cell? ⟨w6.heap.size, 1, none⟩ = some (.int .i64 (va x1)) ∧ w'.cell? ⟨w6.heap.size, 2, none⟩ = some (.int .i64 kk) ∧ w'.cell? ⟨w6.heap.size, 3, none⟩ = some (.int .i64 vv) ∧ w'.cell? ⟨w6.heap.size, 4, none⟩ = some (.int .i64 ll)) w8 := ⟨O8.cell 1 (by omega), V5.cell 0 (by omega), V5.cell 1 (by omega), V5.cell 2 (by omega), V5.cell 3 (by omega), V5.cell 4 (by omega)⟩
  have S0 : (fun w' : World => w'.cell? ⟨b, 1, none⟩ = some (.slice pP m cP) ∧ w'.cell? ⟨w6.heap.size, 0, none⟩ = some (.int .i64 (va x0)) ∧ w'.cell? ⟨w6.heap.size, 1, none⟩ = some (.int .i64 (va x1)) ∧ w'.cell? ⟨w6.heap.size, 2, none⟩ = some (.int .i64 kk) ∧ w'.cell? ⟨w6.heap.size, 3, none⟩ = some (.int .i64 vv) ∧ w'.cell? ⟨w6.heap.size, 4, none⟩ = some (.int .i64 ll)) w7.drew := ⟨a0, q0, q1, q2, q3, q4⟩
  have KA : Below w7.heap.size w7 (w7.alloc (.cells #[.int .i64 (va x0), .int .i64 (va x1), .int .i64 kk, .int .i64 vv, .int .i64 ll] 62)).drew := (below_new w7 _).trans ⟨rfl, rfl, rfl, Nat.le_refl _, fun _ _ => rfl⟩
  have hl4 := O7.lt
  have SA : (fun w' : World => w'.cell? ⟨b, 1, none⟩ = some (.slice pP m cP) ∧ w'.cell? ⟨w6.heap.size, 0, none⟩ = some (.int .i64 (va x0)) ∧ w'.cell? ⟨w6.heap.size, 1, none⟩ = some (.int .i64 (va x1)) ∧ w'.cell? ⟨w6.heap.size, 2, none⟩ = some (.int .i64 kk) ∧ w'.cell? ⟨w6.heap.size, 3, none⟩ = some (.int .i64 vv) ∧ w'.cell? ⟨w6.heap.size, 4, none⟩ = some (.int .i64 ll)) (w7.alloc (.cells #[.int .i64 (va x0), .int .i64 (va x1), .int .i64 kk, .int .i64 vv, .int .i64 ll] 62)).drew := ⟨(KA.cell (p := ⟨b, 1, none⟩) hl4).trans a0, (KA.cell (p := ⟨_, 0, none⟩) hv4).trans q0, (KA.cell (p := ⟨_, 1, none⟩) hv4).trans q1, (KA.cell (p := ⟨_, 2, none⟩) hv4).trans q2, (KA.cell (p := ⟨_, 3, none⟩) hv4).trans q3, (KA.cell (p := ⟨_, 4, none⟩) hv4).trans q4⟩
  have f5 : w8.frozen? ⟨b, 1, none⟩ = false := O8.free 1
  have g5 : w8.cell? ⟨b, 1, none⟩ = some (.slice pP m cP) := O8.cell 1 (by omega)
  have hne : w6.heap.size ≠ b := by omega
  have hO6 := (Only.refl b w8).setCell 1 (.slice p5 (m + 1) c5)
  have O6 := Lib.hid ((O8.set 1 (.slice p5 (m + 1) c5) (by omega)).congr (e := parC (.slice pN n cN) (.slice p5 (m + 1) c5) k (.slice pw r5.length cw)) (fun j hj => by rcases (by omega : j = 0 ∨ j = 1 ∨ j = 2 ∨ j = 3) with rfl | rfl | rfl | rfl <;> rfl))
  have R6 := Lib.hid (R5.low (Upd.of_only hO6) hbB)
  have U6 := Lib.hid (((upd_or2 UU5.out).trans (Upd.of_below b1)).trans ((u4.mono (fun k _ e => .inr e)).trans (upd_or2 (Upd.of_only hO6))))
  clear b1 V1 O5 R3 O7 R4 R5 u5 u4 O8 V5 KA
  have e0 := S0.1
  have d0 := SA.1
  have S6 : (fun w' : World => w'.cell? ⟨w6.heap.size, 0, none⟩ = some (.int .i64 (va x0)) ∧ w'.cell? ⟨w6.heap.size, 1, none⟩ = some (.int .i64 (va x1)) ∧ w'.cell? ⟨w6.heap.size, 2, none⟩ = some (.int .i64 kk) ∧ w'.cell? ⟨w6.heap.size, 3, none⟩ = some (.int .i64 vv) ∧ w'.cell? ⟨w6.heap.size, 4, none⟩ = some (.int .i64 ll)) (w8.setCell ⟨b, 1, none⟩ (.slice p5 (m + 1) c5)) := ⟨(hO6.cell (a := ⟨w6.heap.size, 0, none⟩) hne).trans S5.2.1, (hO6.cell (a := ⟨w6.heap.size, 1, none⟩) hne).trans S5.2.2.1, (hO6.cell (a := ⟨w6.heap.size, 2, none⟩) hne).trans S5.2.2.2.1, (hO6.cell (a := ⟨w6.heap.size, 3, none⟩) hne).trans S5.2.2.2.2.1, (hO6.cell (a := ⟨w6.heap.size, 4, none⟩) hne).trans S5.2.2.2.2.2⟩
  clear hO6
  refine wp_region_held_drew (S := (fun w' : World => w'.cell? ⟨w6.heap.size, 0, none⟩ = some (.int .i64 (va x0)) ∧ w'.cell? ⟨w6.heap.size, 1, none⟩ = some (.int .i64 (va x1)) ∧ w'.cell? ⟨w6.heap.size, 2, none⟩ = some (.int .i64 kk) ∧ w'.cell? ⟨w6.heap.size, 3, none⟩ = some (.int .i64 vv) ∧ w'.cell? ⟨w6.heap.size, 4, none⟩ = some (.int .i64 ll))) (by kernel_rfl) S0.2 (fun hHeld => ?_)
  refine wpAnyH_take (i := 0) (v := ?_) nth0 (by kernel_rfl) (by kernel_rfl) (by kernel_rfl) (fun _ _ _ h => h) (Or.inl ⟨by rfl, ?_⟩) (by assumption) ?_
  rotate_left
  · intro w hSw; (try dsimp only at hSw); go_simp; try with_reducible rfl
  try simp only [Act.put, List.setIfInBounds_toArray, List.set_cons_zero, List.set_cons_succ]
  refine wpAnyH_take (i := 1) (v := ?_) nth1 (by kernel_rfl) (by kernel_rfl) (by kernel_rfl) (fun _ _ _ h => h) (Or.inl ⟨by rfl, ?_⟩) (by assumption) ?_
  rotate_left
  · intro w hSw; (try dsimp only at hSw); go_simp; try with_reducible rfl
  try simp only [Act.put, List.setIfInBounds_toArray, List.set_cons_zero, List.set_cons_succ]
  refine wpAnyH_take (i := 2) (v := ?_) nth2 (by kernel_rfl) (by kernel_rfl) (by kernel_rfl) (fun _ _ _ h => h) (Or.inl ⟨by rfl, ?_⟩) (by assumption) ?_
  rotate_left
  · intro w hSw; (try dsimp only at hSw); go_simp; try with_reducible rfl
  try simp only [Act.put, List.setIfInBounds_toArray, List.set_cons_zero, List.set_cons_succ]
  refine wpAnyH_take (i := 3) (v := ?_) nth3 (by kernel_rfl) (by kernel_rfl) (by kernel_rfl) (fun _ _ _ h => h) (Or.inl ⟨by rfl, ?_⟩) (by assumption) ?_
  rotate_left
  · intro w hSw; (try dsimp only at hSw); go_simp; try with_reducible rfl
  try simp only [Act.put, List.setIfInBounds_toArray, List.set_cons_zero, List.set_cons_succ]
  refine wpAnyH_take (i := 4) (v := ?_) nth4 (by kernel_rfl) (by kernel_rfl) (by kernel_rfl) (fun _ _ _ h => h) (Or.inl ⟨by rfl, ?_⟩) (by assumption) ?_
  rotate_left
  · intro w hSw; (try dsimp only at hSw); go_simp; try with_reducible rfl
  try simp only [Act.put, List.setIfInBounds_toArray, List.set_cons_zero, List.set_cons_succ]
  refine wpAnyH_take (i := 6) (v := ?_) nth6 (by kernel_rfl) (by kernel_rfl) (by kernel_rfl) (fun _ _ _ h => h) (Or.inl ⟨by rfl, ?_⟩) (by assumption) ?_
  rotate_left
  · intro w hSw; (try dsimp only at hSw); go_simp; try with_reducible rfl
  try simp only [Act.put, List.setIfInBounds_toArray, List.set_cons_zero, List.set_cons_succ]
  refine wpAnyH_ready (rs := [5, 7]) (by kernel_rfl) (by simp) ?_
  refine (AllReadyH.cons nth5 (fun K hK => ?_) (AllReadyH.cons nth7 (fun K hK => ?_) AllReadyH.nil))
  · go_simp
    refine hK.out _ _ ?_ (fun hHeld => ?_)
    · exact S0.2
    clear hK K
    try simp only [Act.put, List.setIfInBounds_toArray, List.set_cons_zero, List.set_cons_succ]
    refine wpAnyH_ready (rs := [7]) (by kernel_rfl) (by simp) ?_
    refine (AllReadyH.cons nth7 (fun K hK => ?_) AllReadyH.nil)
    go_simp
    refine hK.out _ _ ?_ (fun hHeld => ?_)
    · exact SA.2
    clear hK K
    try simp only [Act.put, List.setIfInBounds_toArray, List.set_cons_zero, List.set_cons_succ]
    refine wpAnyH_ready (rs := [8]) (by kernel_rfl) (by simp) ?_
    refine (AllReadyH.cons nth8 (fun K hK => ?_) AllReadyH.nil)
    refine step_appT hr rfl (.tmp 19) (.tmp 21) rfl rfl rfl rfl ?_
    refine hK.out _ _ ?_ (fun hHeld => ?_)
    · exact S5.2
    clear hK K
    try simp only [Act.put, List.setIfInBounds_toArray, List.set_cons_zero, List.set_cons_succ]
    refine wpAnyH_take (i := 9) (v := ?_) nth9 (by kernel_rfl) (by kernel_rfl) (by kernel_rfl) (fun _ _ _ h => h) (Or.inl ⟨by rfl, ?_⟩) (by assumption) ?_
    rotate_left
    · intro w hSw; (try dsimp only at hSw); go_simp; try with_reducible rfl
    try simp only [Act.put, List.setIfInBounds_toArray, List.set_cons_zero, List.set_cons_succ]
    refine wpAnyH_take (i := 10) (v := ?_) nth10 (by kernel_rfl) (by kernel_rfl) (by kernel_rfl) (fun _ _ _ h => h) (Or.inl ⟨by rfl, ?_⟩) (by assumption) ?_
    rotate_left
    · intro w hSw; (try dsimp only at hSw); go_simp; try with_reducible rfl
    try simp only [Act.put, List.setIfInBounds_toArray, List.set_cons_zero, List.set_cons_succ]
    refine wpAnyH_take (i := 11) (v := ?_) nth11 (by kernel_rfl) (by kernel_rfl) (by kernel_rfl) (fun _ _ _ h => h) (Or.inl ⟨by rfl, ?_⟩) (by assumption) ?_
    rotate_left
    · intro w hSw; (try dsimp only at hSw); go_simp; try with_reducible rfl
    try simp only [Act.put, List.setIfInBounds_toArray, List.set_cons_zero, List.set_cons_succ]
    refine wpAnyH_ready (rs := [12]) (by kernel_rfl) (by simp) ?_
    refine (AllReadyH.cons nth12 (fun K hK => ?_) AllReadyH.nil)
    go_simp
    refine hK.out _ _ ?_ (fun hHeld => ?_)
    · exact S6
    clear hK K
    try simp only [Act.put, List.setIfInBounds_toArray, List.set_cons_zero, List.set_cons_succ]
    refine wpAnyH_done (by kernel_rfl) ?_ _
    go_wp2_with fail
    go_end0
    exact .inr ⟨x0, x1, x2, x3, x4, r5, kk, vv, ll, _, pw, cw, rfl, HC0.out, HC1.out, HK.out, HV.out, HL.out, rfl, O6.out, R6.out, U6.out⟩
  · go_simp
    refine hK.out _ _ ?_ (fun hHeld => ?_)
    · exact SA.2
    clear hK K
    try simp only [Act.put, List.setIfInBounds_toArray, List.set_cons_zero, List.set_cons_succ]
    refine wpAnyH_ready (rs := [5]) (by kernel_rfl) (by simp) ?_
    refine (AllReadyH.cons nth5 (fun K hK => ?_) AllReadyH.nil)
    go_simp
    refine hK.out _ _ ?_ (fun hHeld => ?_)
    · exact SA.2
    clear hK K
    try simp only [Act.put, List.setIfInBounds_toArray, List.set_cons_zero, List.set_cons_succ]
    refine wpAnyH_ready (rs := [8]) (by kernel_rfl) (by simp) ?_
    refine (AllReadyH.cons nth8 (fun K hK => ?_) AllReadyH.nil)
    refine step_appT hr rfl (.tmp 19) (.tmp 21) rfl rfl rfl rfl ?_
    refine hK.out _ _ ?_ (fun hHeld => ?_)
    · exact S5.2
    clear hK K
    try simp only [Act.put, List.setIfInBounds_toArray, List.set_cons_zero, List.set_cons_succ]
    refine wpAnyH_take (i := 9) (v := ?_) nth9 (by kernel_rfl) (by kernel_rfl) (by kernel_rfl) (fun _ _ _ h => h) (Or.inl ⟨by rfl, ?_⟩) (by assumption) ?_
    rotate_left
    · intro w hSw; (try dsimp only at hSw); go_simp; try with_reducible rfl
    try simp only [Act.put, List.setIfInBounds_toArray, List.set_cons_zero, List.set_cons_succ]
    refine wpAnyH_take (i := 10) (v := ?_) nth10 (by kernel_rfl) (by kernel_rfl) (by kernel_rfl) (fun _ _ _ h => h) (Or.inl ⟨by rfl, ?_⟩) (by assumption) ?_
    rotate_left
    · intro w hSw; (try dsimp only at hSw); go_simp; try with_reducible rfl
    try simp only [Act.put, List.setIfInBounds_toArray, List.set_cons_zero, List.set_cons_succ]
    refine wpAnyH_take (i := 11) (v := ?_) nth11 (by kernel_rfl) (by kernel_rfl) (by kernel_rfl) (fun _ _ _ h => h) (Or.inl ⟨by rfl, ?_⟩) (by assumption) ?_
    rotate_left
    · intro w hSw; (try dsimp only at hSw); go_simp; try with_reducible rfl
    try simp only [Act.put, List.setIfInBounds_toArray, List.set_cons_zero, List.set_cons_succ]
    refine wpAnyH_ready (rs := [12]) (by kernel_rfl) (by simp) ?_
    refine (AllReadyH.cons nth12 (fun K hK => ?_) AllReadyH.nil)
    go_simp
    refine hK.out _ _ ?_ (fun hHeld => ?_)
    · exact S6
    clear hK K
    try simp only [Act.put, List.setIfInBounds_toArray, List.set_cons_zero, List.set_cons_succ]
    refine wpAnyH_done (by kernel_rfl) ?_ _
    go_wp2_with fail
    go_end0
    exact .inr ⟨x0, x1, x2, x3, x4, r5, kk, vv, ll, _, pw, cw, rfl, HC0.out, HC1.out, HK.out, HV.out, HL.out, rfl, O6.out, R6.out, U6.out⟩
end Go.Proofs.YtbenloeomjdkcaaGreatDoor.text

namespace Go.Proofs.YtbenloeomjdkcaaGreatDoor.nl
open Go.RowKit Go.Proofs.YtbenloeomjdkcaaGreatDoor.mem
set_option linter.unusedVariables false

def sp : Nat → List UInt8 → List (List UInt8)
  | 0, s => [s]
  | k + 1, s => if (10 : UInt8) ∈ s then s.takeWhile (· != 10) :: sp k ((s.dropWhile (· != 10)).drop 1) else [s]
theorem cut_at {a t : List UInt8} (h : (10 : UInt8) ∉ a) : (a ++ 10 :: t).takeWhile (· != 10) = a ∧ ((a ++ 10 :: t).dropWhile (· != 10)).drop 1 = t := by
  induction a with
  | nil => simp
  | cons x r ih =>
    have hx : (x != 10) = true := by simp; intro e; subst e; exact h (List.mem_cons_self ..)
    have hr := ih (fun e => h (List.mem_cons_of_mem _ e))
    simp only [List.cons_append, List.takeWhile_cons, List.dropWhile_cons, hx, if_true]
    exact ⟨by rw [hr.1], hr.2⟩
theorem cut_ex {s : List UInt8} (h : (10 : UInt8) ∈ s) : ∃ a t, (10 : UInt8) ∉ a ∧ s = a ++ 10 :: t := by
  induction s with
  | nil => cases h
  | cons x r ih =>
    by_cases hx : x = 10
    · subst hx
      exact ⟨[], r, by simp, rfl⟩
    · obtain ⟨a, t, h1, h2⟩ := ih (by rcases List.mem_cons.1 h with e | e; exact absurd e.symm hx; exact e)
      exact ⟨x :: a, t, by simp only [List.mem_cons, not_or]; exact ⟨fun e => hx e.symm, h1⟩, by rw [h2]; rfl⟩
theorem sp_one {k : Nat} {a t : List UInt8} (h : (10 : UInt8) ∉ a) : sp (k + 1) (a ++ 10 :: t) = a :: sp k t := by
  obtain ⟨h1, h2⟩ := cut_at (t := t) h
  show (if (10 : UInt8) ∈ a ++ 10 :: t then _ else _) = _
  rw [if_pos (by simp), h1, h2]
theorem sp_end {k : Nat} {a : List UInt8} (h : (10 : UInt8) ∉ a) : sp k a = [a] := by
  cases k with
  | zero => rfl
  | succ k =>
    show (if (10 : UInt8) ∈ a then _ else _) = _
    rw [if_neg h]
theorem sp_ne (k : Nat) (s : List UInt8) : sp k s ≠ [] := by
  cases k with
  | zero => simp [sp]
  | succ k =>
    unfold sp
    split <;> simp
theorem sp_join : ∀ (k : Nat) (s : List UInt8), Lib.join (sp k s) [10] = s := by
  intro k
  induction k with
  | zero => intro s; simp [sp, Lib.join, List.intercalate]
  | succ k ih =>
    intro s
    by_cases h : (10 : UInt8) ∈ s
    · obtain ⟨a, t, h1, rfl⟩ := cut_ex h
      rw [sp_one h1]
      have hi := ih t
      cases hs : sp k t with
      | nil => exact absurd hs (sp_ne k t)
      | cons y r =>
        rw [hs] at hi
        rw [← hi]
        simp [Lib.join, List.intercalate, List.intersperse]
    · rw [sp_end h]
      simp [Lib.join, List.intercalate]
theorem sp_big : ∀ (k j : Nat) (s : List UInt8), s.length ≤ k → s.length ≤ j → sp k s = sp j s := by
  intro k
  induction k with
  | zero =>
    intro j s h1 h2
    obtain rfl : s = [] := List.length_eq_zero_iff.1 (by omega)
    rw [sp_end (by simp), sp_end (by simp)]
  | succ k ih =>
    intro j s h1 h2
    by_cases h : (10 : UInt8) ∈ s
    · obtain ⟨a, t, h3, rfl⟩ := cut_ex h
      simp only [List.length_append, List.length_cons] at h1 h2
      obtain ⟨j', rfl⟩ : ∃ j', j = j' + 1 := ⟨j - 1, by omega⟩
      rw [sp_one h3, sp_one h3, ih j' t (by omega) (by omega)]
    · rw [sp_end h, sp_end h]
theorem sp_min (k : Nat) (s : List UInt8) : sp (min (k + 1) (s.length + 1) - 1) s = sp k s := by
  by_cases h : k ≤ s.length
  · rw [show min (k + 1) (s.length + 1) - 1 = k by omega]
  · rw [show min (k + 1) (s.length + 1) - 1 = s.length by omega]
    exact sp_big _ _ _ (Nat.le_refl _) (by omega)
theorem index_no {s : List UInt8} (h : (10 : UInt8) ∉ s) : Lib.index s [10] = -1 := by
  rw [Lib.index_one]
  have := Lib.indexByte_ge s 10
  rcases (by omega : Lib.indexByte s 10 = -1 ∨ 0 ≤ Lib.indexByte s 10) with e | e
  · exact e
  · obtain ⟨o, ho⟩ := Int.eq_ofNat_of_zero_le e
    exact absurd (List.mem_of_getElem? (Lib.indexByte_some ho).1) h
theorem index_at {a t : List UInt8} (h : (10 : UInt8) ∉ a) : Lib.index (a ++ 10 :: t) [10] = (a.length : Int) := by
  rw [Lib.index_one]
  have hge := Lib.indexByte_ge (a ++ 10 :: t) 10
  have hat : (a ++ 10 :: t)[a.length]? = some 10 := by simp
  rcases (by omega : Lib.indexByte (a ++ 10 :: t) 10 = -1 ∨ 0 ≤ Lib.indexByte (a ++ 10 :: t) 10) with e | e
  · exact absurd hat (Lib.indexByte_none e _)
  · obtain ⟨o, ho⟩ := Int.eq_ofNat_of_zero_le e
    obtain ⟨h1, h2⟩ := Lib.indexByte_some ho
    rw [ho]
    rcases Nat.lt_trichotomy o a.length with q | q | q
    · rw [List.getElem?_append_left q] at h1
      exact absurd (List.mem_of_getElem? h1) h
    · rw [q]
    · exact absurd hat (h2 _ q)
theorem splitK_sp : ∀ (k : Nat) (s : List UInt8), Lib.splitK [10] 0 k s = sp k s := by
  intro k
  induction k with
  | zero => intro s; rfl
  | succ k ih =>
    intro s
    by_cases h : (10 : UInt8) ∈ s
    · obtain ⟨a, t, h1, rfl⟩ := cut_ex h
      rw [sp_one h1]
      unfold Lib.splitK
      rw [index_at h1, if_neg (by simp), ih]
      simp
    · rw [sp_end h]
      unfold Lib.splitK
      rw [index_no h]
      rfl
theorem splitB_sp (k : Nat) (s : ByteArray) : (Lib.splitB ⟨#[10]⟩ 0 (min (k + 1) (s.size + 1) - 1) s).map (·.data.toList) = sp k s.data.toList := by
  rw [Lib.splitB_data]
  show Lib.splitK [10] 0 _ _ = _
  have e : s.size = s.data.toList.length := Array.length_toList.symm
  rw [splitK_sp, e, sp_min]
theorem sp_size : ∀ (k : Nat) (s x : List UInt8), x ∈ sp k s → x.length ≤ s.length := by
  intro k
  induction k with
  | zero =>
    intro s x h
    obtain rfl : x = s := by simpa [sp] using h
    exact Nat.le_refl _
  | succ k ih =>
    intro s x h
    by_cases hb : (10 : UInt8) ∈ s
    · obtain ⟨a, t, h1, rfl⟩ := cut_ex hb
      rw [sp_one h1] at h
      simp only [List.length_append, List.length_cons]
      rcases List.mem_cons.1 h with rfl | h
      · omega
      · have := ih t x h
        omega
    · rw [sp_end hb] at h
      obtain rfl : x = s := by simpa using h
      exact Nat.le_refl _
end Go.Proofs.YtbenloeomjdkcaaGreatDoor.nl
