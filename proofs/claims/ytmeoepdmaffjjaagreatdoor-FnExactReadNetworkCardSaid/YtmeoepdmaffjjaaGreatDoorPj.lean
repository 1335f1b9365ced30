/-
  The parser of networks: a text. Conditions: as each states.
-/
import Derived.Test.YtmeoepdmaffjjaaGreatDoorRows
import Derived.Test.YtmeoepdmaffjjaaGreatDoorPh
import Derived.Test.YtmeoepdmaffjjaaGreatDoorPi
import Derived.Test.YtmeoepdmaffjjaaGreatDoorSpN
import Derived.Test.YtmeoepdmaffjjaaGreatDoorShelfC
import Derived.Lib.IndexMore
import Derived.WalkKit
import Derived.ProofKit
import Derived.Lib.Hide
import Derived.OwnWalk
namespace Go.Proofs.YtmeoepdmaffjjaaGreatDoor.text
open Go.RowKit Go.Proofs.YtmeoepdmaffjjaaGreatDoor.mem
set_option linter.unusedVariables false
set_option maxRecDepth 100000

/-- right lines, one after another -/
inductive Chain : Nat → (Nat → Nod) → Nat → (Nat → Pip) → List (List UInt8) → Prop
  | nil (N : Nat → Nod) (P : Nat → Pip) : Chain 0 N 0 P []
  | snoc {n : Nat} {N : Nat → Nod} {m : Nat} {P : Nat → Pip} {ls : List (List UInt8)} {s : List UInt8} {ps : List ByteArray} {n' : Nat} {N' : Nat → Nod} {m' : Nat} {P' : Nat → Pip} :
      Chain n N m P ls → ps.map (·.data.toList) = sp 6 s → LineOK n N m P ps n' N' m' P' → netB n' N' m' P' = true → Chain n' N' m' P' (ls ++ [s])
/-- what is left of a text is no further right line -/
def NoStep (n : Nat) (N : Nat → Nod) (m : Nat) (P : Nat → Pip) (ls : List (List UInt8)) (rest : List UInt8) : Prop :=
  ((10 : UInt8) ∉ rest ∧ (ls = [] ∨ rest ≠ [])) ∨ ∃ a t, (10 : UInt8) ∉ a ∧ rest = a ++ 10 :: t ∧ ∀ ps : List ByteArray, ps.map (·.data.toList) = sp 6 a → ∀ n' N' m' P', LineOK n N m P ps n' N' m' P' → netB n' N' m' P' = false
theorem chain_bd {n : Nat} {N : Nat → Nod} {m : Nat} {P : Nat → Pip} {ls : List (List UInt8)} (h : Chain n N m P ls) : n ≤ 1000 ∧ m ≤ 1000 ∧ ∀ i, i < n → (N i).s.size ≤ 9223372036854775807 := by
  cases h with
  | nil => exact ⟨by omega, by omega, fun i hi => by omega⟩
  | snoc _ _ _ hb =>
    have hz := net_sz hb
    refine ⟨by omega, by omega, fun i hi => ?_⟩
    have := (nod_bd ((net_nodes hb).1 i hi)).1
    omega
theorem cut_no {l : List UInt8} (h : (10 : UInt8) ∉ l) : Lib.cut l [10] = (l, [], false) := by
  unfold Lib.cut
  rw [nl.index_no h]
  simp
theorem cut_yes {a t : List UInt8} (h : (10 : UInt8) ∉ a) : Lib.cut (a ++ 10 :: t) [10] = (a, t, true) := by
  unfold Lib.cut
  rw [nl.index_at h]
  have h0 : ¬ ((a.length : Int) < 0) := by omega
  simp
def RTPost (w : World) (b B : Nat) (s : List UInt8) (e : Ending) (w' : World) : Prop :=
  (e = .panicked fell ∧ Upd (fun x => x = b ∨ B ≤ x) w w' ∧ ∃ n N m P ls rest, Chain n N m P ls ∧ s = glue ls ++ rest ∧ w'.cell? ⟨b, 2, none⟩ = some (.int .i64 (ls.length : Nat)) ∧ NoStep n N m P ls rest) ∨
  ∃ n N m P ls p1 c1 p2 c2 vW', ls ≠ [] ∧ Chain n N m P ls ∧ s = glue ls ∧ e = .returned (.tuple #[]) ∧ Ob w' b 4 (parC (.slice p1 n c1) (.slice p2 m c2) (ls.length : Nat) vW') ∧ RN B w' (.slice p1 n c1) n (nodC N) ∧ RP B w' (.slice p2 m c2) m (pipC P) ∧ Upd (fun x => x = b ∨ B ≤ x) w w'
def strSize (v : Value) : Nat := match v with
  | .string x => x.size
  | _ => 0
/-- how far the reading has come -/
structure Sofar (w : World) (b B : Nat) (s : List UInt8) (fb : Bool) (rest : ByteArray) (wr : World) : Prop where
  ex : ∃ n N m P ls p1 c1 p2 c2 vW', fb = ls.isEmpty ∧ Chain n N m P ls ∧ s = glue ls ++ rest.data.toList ∧ Ob wr b 4 (parC (.slice p1 n c1) (.slice p2 m c2) (ls.length : Nat) vW') ∧ RN B wr (.slice p1 n c1) n (nodC N) ∧ RP B wr (.slice p2 m c2) m (pipC P) ∧ (m = 0 → p2 = none ∧ c2 = 0) ∧ Upd (fun x => x = b ∨ B ≤ x) w wr
  sz : rest.size ≤ 1048576

set_option maxHeartbeats 4000000 in
theorem readText_any (w0 w : World) (b B : Nat) (vW : Value) (s : ByteArray) (h : Ob w b 4 (parC (.slice none 0 0) (.slice none 0 0) 0 vW)) (hbB : b < B) (hBw : B ≤ w.heap.size) (hE : Env w0) (h0 : Below w0.heap.size w0 w) (hb : w0.heap.size ≤ b) (hs : s.size ≤ 1048576) :
    Calls Tryz.prog 18 #[.pointer (some ⟨b, 0, none⟩), .string s] w (RTPost w b B s.data.toList) := by
  have HE := Lib.hid hE
  have H0 := Lib.hid h0
  have bw : ∀ X : World, Upd (fun x => x = b ∨ B ≤ x) w X → Below w0.heap.size w0 X := fun X u => H0.out.trans (u.below H0.out.size (by
    have := H0.out.size
    rintro q _ (rfl | hq) <;> omega))
  have BW := Lib.hid bw
  have S0 : Sofar w b B s.data.toList true s w := ⟨⟨0, fun _ => ⟨⟨#[]⟩, 0, 0⟩, 0, fun _ => ⟨0, 0, 0, 0, 0⟩, [], none, 0, none, 0, vW, rfl, .nil _ _, rfl, h, ⟨World.ownsRow_nil _ _ _ _⟩, ⟨World.ownsRow_nil _ _ _ _⟩, fun _ => ⟨rfl, rfl⟩, Upd.refl _ _⟩, hs⟩
  have HT := Lib.hid (rfl : s.data.toList = s.data.toList)
  have hstl : s.data.toList.length ≤ 1048576 := by
    have e : s.data.toList.length = s.size := Array.length_toList
    omega
  generalize hst : s.data.toList = st at S0 hstl ⊢
  clear h hE h0 bw hst HT
  go_enter Tryz.func18, Tryz.ntmps18
  go_wp2_with fail
  go_loopw [4, 1] (fun fi sv wr => ∃ (fb : Bool) (rest : ByteArray), fi = .bool fb ∧ sv = .string rest ∧ Sofar w b B st fb rest wr) (fun _ sv _ => strSize sv)
  case atStart => exact ⟨true, s, rfl, rfl, S0⟩
  case round =>
    obtain ⟨fb, rest, rfl, rfl, hS⟩ := hrel
    clear S0
    obtain ⟨⟨n, N, m, P, ls, p1, c1, p2, c2, vW', hfb, hC, hst, O, RNn, RPp, h00, U⟩, hz⟩ := hS
    have HC := Lib.hid hC
    have HST := Lib.hid hst
    have hUs := U.size
    by_cases hgo : fb = false ∧ rest.toList.isEmpty = true
    · obtain ⟨rfl, he⟩ := hgo
      have hr0 : rest.data.toList = [] := by rw [← Go.ByteArray.toList_eq]; simpa using he
      have hne : ls ≠ [] := by rintro rfl; cases hfb
      have HP := Lib.hid (⟨n, N, m, P, ls, p1, c1, p2, c2, vW', hne, hC, by rw [hst, hr0, List.append_nil], O, RNn, RPp, U⟩ : ∃ n N m P ls p1 c1 p2 c2 vW', ls ≠ [] ∧ Chain n N m P ls ∧ st = glue ls ∧ Ob wr b 4 (parC (.slice p1 n c1) (.slice p2 m c2) (ls.length : Nat) vW') ∧ RN B wr (.slice p1 n c1) n (nodC N) ∧ RP B wr (.slice p2 m c2) m (pipC P) ∧ Upd (fun x => x = b ∨ B ≤ x) w wr)
      clear hst hC O RNn RPp U hfb h00 hne hr0
      go_wp2_with fail
      go_end0
      obtain ⟨n, N, m, P, ls, p1, c1, p2, c2, vW', q1, q2, q3, q4, q5, q6, q7⟩ := HP.out
      exact .inr ⟨n, N, m, P, ls, p1, c1, p2, c2, vW', q1, q2, q3, rfl, q4, q5, q6, q7⟩
    · have hmx0 := (env_below HE.out (BW.out _ U)).maxlen
      obtain ⟨mx, hmx⟩ := hmx0
      have hcut := Tryz.strings_Cut rest ⟨#[10]⟩ mx wr (by omega) hmx
      have hl := O.lt
      have hlen : ls.length ≤ 1048576 := by
        have h1 : ls.length ≤ (glue ls).length := by
          clear hC HC hst HST hfb O
          induction ls with
          | nil => simp
          | cons x r ih => simp [glue] at ih ⊢; omega
        have h2 := congrArg List.length hst
        rw [List.length_append] at h2
        omega
      have hlI : ((ls.length : Nat) : Int) ≤ 1048576 := by omega
      have hgo' : fb = true ∨ rest.toList.isEmpty = false := by
        cases fb
        · right
          cases h : rest.toList.isEmpty
          · rfl
          · exact absurd ⟨rfl, h⟩ hgo
        · exact .inl rfl
      have bd := chain_bd hC
      have U' := Lib.hid U
      by_cases hmem : (10 : UInt8) ∈ rest.data.toList
      · obtain ⟨a, t, ha, hat⟩ := nl.cut_ex hmem
        rw [show (⟨#[10]⟩ : ByteArray).data.toList = [10] from rfl, hat, cut_yes ha] at hcut
        have HCUT := Lib.hid hcut
        have HAT := Lib.hid hat
        have HA := Lib.hid ha
        have hsz : a.length + t.length + 1 = rest.size := by
          have e : rest.data.toList.length = rest.size := Array.length_toList
          rw [hat] at e
          simp at e
          omega
        clear hcut hat ha hmem hst hC hfb U hgo
        rcases hgo' with rfl | hgo'
        all_goals go_wp2_with fail
        all_goals refine HCUT.out.mono ?_
        all_goals rintro e w2 ⟨rfl, kk, hw2⟩
        all_goals have b2 : Below wr.heap.size wr w2 := by subst hw2; exact ⟨rfl, rfl, rfl, Nat.le_refl _, fun _ _ => rfl⟩
        all_goals clear hw2
        all_goals have O2 := O.below b2 hl
        all_goals have N2 := RowE.next RNn b2
        all_goals have P2 := RowE.next RPp b2
        all_goals have U2 := Lib.hid (U'.out.trans (Upd.of_below b2))
        all_goals have hB2 : B ≤ w2.heap.size := Nat.le_trans (Nat.le_trans hBw hUs) b2.size
        all_goals clear O RNn RPp b2
        all_goals go_wp2_with fail
        all_goals refine (readLineG w0 w2 b B n m c1 c2 p1 p2 N P _ vW' ⟨a.toArray⟩ O2 N2 P2 h00 bd.1 bd.2.1 bd.2.2 hbB hB2 HE.out (BW.out _ U2.out) hb (by show a.toArray.size ≤ _; simp; omega)).mono ?_
        all_goals rintro e w3 (⟨rfl, U3, hno⟩ | ⟨ps, n', N', m', P', q1, k1, q2, k2, vW3, hps, hLO, hB, rfl, O3, N3, P3, h03, U3⟩)
        all_goals (first | (exact ⟨rfl, .inl ⟨rfl, U2.out.trans U3.upd, n, N, m, P, ls, _, HC.out, HST.out, U3.lines, .inr ⟨a, t, HA.out, HAT.out, fun ps e => hno ps e⟩⟩⟩) | skip)
        all_goals (
          have f2 := O3.free 2
          have g2 : w3.cell? ⟨b, 2, none⟩ = some (.int .i64 (ls.length : Nat)) := O3.cell 2 (by omega)
          have hO := (Only.refl b w3).setCell 2 (.int .i64 ((ls.length : Nat) + 1))
          have O4 := Lib.hid ((O3.set 2 (.int .i64 ((ls.length : Nat) + 1)) (by omega)).congr (e := parC (.slice q1 n' k1) (.slice q2 m' k2) ((ls ++ [a]).length : Nat) vW3) (fun j hj => by rcases (by omega : j = 0 ∨ j = 1 ∨ j = 2 ∨ j = 3) with rfl | rfl | rfl | rfl <;> first | rfl | (show Value.int .i64 ((ls.length : Nat) + 1) = Value.int .i64 (((ls ++ [a]).length : Nat) : Int); simp)))
          have N4 := Lib.hid (RowE.low N3 (Upd.of_only hO) hbB)
          have P4 := Lib.hid (RowE.low P3 (Upd.of_only hO) hbB)
          have U4 := Lib.hid ((U2.out.trans U3).trans (upd_or (Upd.of_only hO)))
          have HCH := Lib.hid (Chain.snoc (s := a) HC.out hps hLO hB)
          have H03 := Lib.hid h03
          clear hO O3 N3 P3 U3 hps hLO hB h03
          go_wp2_with fail
          go_roundw
          case rel => exact ⟨false, ⟨t.toArray⟩, rfl, rfl, ⟨⟨n', N', m', P', ls ++ [a], q1, k1, q2, k2, vW3, by simp, HCH.out, by rw [HST.out, HAT.out, glue_app]; simp [glue], O4.out, N4.out, P4.out, H03.out, U4.out⟩, by show t.toArray.size ≤ _; simp; omega⟩⟩
          case measure => show t.toArray.size < rest.size; simp; omega)
      · rw [show (⟨#[10]⟩ : ByteArray).data.toList = [10] from rfl, cut_no hmem] at hcut
        have HCUT := Lib.hid hcut
        have hNO := Lib.hid hmem
        have g2 := O.cell 2 (by omega)
        have hEM := Lib.hid (show ls = [] ∨ rest.data.toList ≠ [] from by
          rcases hgo' with h | h
          · left
            rw [h] at hfb
            simpa using hfb.symm
          · right
            intro e
            rw [← Go.ByteArray.toList_eq] at e
            rw [e] at h
            cases h)
        clear hcut hmem hst hC hfb U hgo
        rcases hgo' with rfl | hgo'
        all_goals go_wp2_with (first | (go_at_call 40; refine HCUT.out.mono ?_; rintro e w2 ⟨rfl, kk, rfl⟩) | (go_at_call 41; refine (fail_any _ _).mono ?_; rintro e w' ⟨rfl, rfl⟩))
        all_goals exact ⟨rfl, .inl ⟨rfl, U'.out.trans ⟨rfl, rfl, rfl, Nat.le_refl _, fun _ _ _ => rfl⟩, n, N, m, P, ls, _, HC.out, HST.out, g2, .inl ⟨hNO.out, hEM.out⟩⟩⟩
end Go.Proofs.YtmeoepdmaffjjaaGreatDoor.text
