/-
  The parser of networks: failing, its next word, its next number. Conditions: as each states.
-/
import Derived.Test.YtmeoepdmaffjjaaGreatDoorRows
import Derived.Test.YtmeoepdmaffjjaaGreatDoorTxB
import Derived.Test.YtmeoepdmaffjjaaGreatDoorDig
import Derived.Test.YtmeoepdmaffjjaaGreatDoorShelfP
import Derived.WalkKit
import Derived.ProofKit
import Derived.Lib.Hide
import Derived.Lib.AtoiErrMem
import Derived.Lib.AppendIntMem
import Derived.OwnWalk
import Derived.Laws.Pointers
import Derived.WalkSmall
import Derived.Lib.ParseIntBTie
namespace Go.Proofs.YtmeoepdmaffjjaaGreatDoor.text
open Go.RowKit Go.Proofs.YtmeoepdmaffjjaaGreatDoor.mem
set_option linter.unusedVariables false
set_option maxRecDepth 100000

/-- the panic of a wrong line -/
def fell : List PanicEntry := [{ v := .iface 9 (.string ⟨#[119, 114, 111, 110, 103, 32, 108, 105, 110, 101]⟩), recovered := false }]
theorem fail_any (a : Value) (w : World) : Calls Tryz.prog 41 #[a] w fun e w' => e = .panicked fell ∧ w = w' := by
  go_enter Tryz.func41, Tryz.ntmps41
  go_wp2_with fail
  exact ⟨rfl, rfl, rfl⟩
/-- the parser's cells -/
def parC (vN vP : Value) (k : Int) (vW : Value) : Nat → Value := fun i => match i with
  | 0 => vN
  | 1 => vP
  | 2 => .int .i64 k
  | _ => vW
/-- words in a row outside of block b -/
structure Ws (w : World) (b : Nat) (v : Value) (ws : List ByteArray) : Prop where
  ex : ∃ p cap, v = .slice p ws.length cap ∧ ws.length ≤ cap ∧ cap ≤ 1000000 ∧ (ws = [] ∨ ∃ bw o, p = some ⟨bw, o, none⟩ ∧ bw < w.heap.size ∧ bw ≠ b ∧ ∀ (i : Nat) x, ws[i]? = some x → w.cell? ⟨bw, o + i, none⟩ = some (.string x))
theorem Ws.upd {w w' : World} {b : Nat} {v : Value} {ws : List ByteArray} (h : Ws w b v ws) (g : Upd (· = b) w w') : Ws w' b v ws := by
  obtain ⟨p, cap, h1, h2, h3, h4⟩ := h.ex
  refine ⟨p, cap, h1, h2, h3, ?_⟩
  rcases h4 with h4 | ⟨bw, o, h4, h5, h6, h7⟩
  · exact .inl h4
  · exact .inr ⟨bw, o, h4, Nat.lt_of_lt_of_le h5 g.size, h6, fun i x hx => (World.cell?_of_block (g.block bw h5 h6)).trans (h7 i x hx)⟩

def WordPost (w : World) (b : Nat) (vN vP : Value) (k : Int) (ws : List ByteArray) (e : Ending) (w' : World) : Prop :=
  (ws = [] ∧ e = .panicked fell ∧ w = w') ∨ ∃ x r vW, ws = x :: r ∧ e = .returned (.string x) ∧ Ob w' b 4 (parC vN vP k vW) ∧ Ws w' b vW r ∧ Upd (· = b) w w'
set_option maxHeartbeats 2000000 in
theorem word_any (w : World) (b : Nat) (vN vP vW : Value) (k : Int) (ws : List ByteArray) (h : Ob w b 4 (parC vN vP k vW)) (g : Ws w b vW ws) :
    Calls Tryz.prog 60 #[.pointer (some ⟨b, 0, none⟩)] w (WordPost w b vN vP k ws) := by
  obtain ⟨p, cap, rfl, h2, h3, h4⟩ := g.ex
  have c3 : w.cell? ⟨b, 3, none⟩ = some (.slice p ws.length cap) := h.cell 3 (by omega)
  have f3 : w.frozen? ⟨b, 3, none⟩ = false := h.free 3
  have H := Lib.hid h
  have G := Lib.hid g
  clear h g
  rcases ws with _ | ⟨x, r⟩
  · clear h4
    go_enter Tryz.func60, Tryz.ntmps60
    go_wp2_with (first | (go_at_call 41; refine (fail_any _ _).mono ?_; rintro e w' ⟨rfl, rfl⟩))
    exact ⟨rfl, .inl ⟨rfl, rfl, rfl⟩⟩
  · rcases h4 with h4 | ⟨bw, o, rfl, h5, h6, h7⟩
    · cases h4
    have hx : w.cell? ⟨bw, o, none⟩ = some (.string x) := h7 0 x rfl
    have H7 := Lib.hid h7
    have hr1 : (1 : Int) ≤ ((r.length + 1 : Nat) : Int) := by omega
    have hr2 : (0 : Int) < ((r.length + 1 : Nat) : Int) := by omega
    simp only [List.length_cons] at c3 h2
    clear h7
    have key : ∀ vW', (∃ p cap, vW' = .slice p r.length cap ∧ r.length ≤ cap ∧ cap ≤ 1000000 ∧ (r = [] ∨ p = some ⟨bw, o + 1, none⟩)) → WordPost w b vN vP k (x :: r) (.returned (.string x)) (w.setCell ⟨b, 3, none⟩ vW') := by
      rintro vW' ⟨q, cq, rfl, q1, q2, q3⟩
      have hO := (Only.refl b w).setCell 3 (.slice q r.length cq)
      refine .inr ⟨x, r, _, rfl, rfl, (H.out.set 3 (.slice q r.length cq) (by omega)).congr (fun j hj => by rcases (by omega : j = 0 ∨ j = 1 ∨ j = 2 ∨ j = 3) with rfl | rfl | rfl | rfl <;> rfl), ⟨q, cq, rfl, q1, q2, ?_⟩, Upd.of_only hO⟩
      rcases q3 with rfl | rfl
      · exact .inl rfl
      · refine .inr ⟨bw, o + 1, rfl, by rw [← hO.size]; exact h5, h6, fun i y hy => ?_⟩
        have e1 := H7.out (i + 1) y (by simpa using hy)
        rw [show o + 1 + i = o + (i + 1) by omega]
        exact (World.cell?_of_block (hO.block bw h6)).trans e1
    have KEY := Lib.hid key
    clear key
    by_cases hc1 : cap = 1
    · subst hc1
      obtain rfl : r = [] := List.length_eq_zero_iff.1 (by omega)
      go_enter Tryz.func60, Tryz.ntmps60
      go_wp2_with (first | (go_at_call 41; refine (fail_any _ _).mono ?_; rintro e w' ⟨rfl, rfl⟩))
      go_ret
      exact KEY.out _ ⟨_, 0, rfl, by simp, by omega, .inl trivial⟩
    · go_enter Tryz.func60, Tryz.ntmps60
      go_wp2_with (first | (go_at_call 41; refine (fail_any _ _).mono ?_; rintro e w' ⟨rfl, rfl⟩))
      all_goals go_ret
      all_goals exact KEY.out _ ⟨_, cap - 1, rfl, by omega, by omega, .inr rfl⟩

/-- the library's variables that a reading looks at -/
structure Env (w : World) : Prop where
  pow : Pow w
  maxlen : ∃ m : Int, w.cell? ⟨0, 0, none⟩ = some (.int .i64 m)
  syn : ∃ t p, w.var? Tryz.prog "strconv.ErrSyntax" = some #[.iface t p]
  rng : ∃ t p, w.var? Tryz.prog "strconv.ErrRange" = some #[.iface t p]
theorem env_below {w w' : World} (h : Env w) (hb : Below w.heap.size w w') : Env w' := by
  obtain ⟨h1, ⟨m, h2⟩, ⟨t3, p3, h3⟩, ⟨t4, p4, h4⟩⟩ := h
  exact ⟨pow_below h1 hb, ⟨m, (hb.cell (p := ⟨_, 0, none⟩) (World.block_lt_of_cell? w _ h2)).trans h2⟩, ⟨t3, p3, var_below h3 hb⟩, ⟨t4, p4, var_below h4 hb⟩⟩
def ParsePost (w : World) (l : List UInt8) (e : Ending) (w' : World) : Prop :=
  (∃ v : Int, e = .returned (.tuple #[.int .i64 v, .nilIface]) ∧ Lib.parseIntB 64 l = .ok v ∧ Below w.heap.size w w') ∨
  (∃ (v : Int) (t : TypeId) (x : Value), e = .returned (.tuple #[.int .i64 v, .iface t x]) ∧ (∀ u, Lib.parseIntB 64 l ≠ .ok u) ∧ Below w.heap.size w w')
theorem parse_cases (x : Lib.NumEnd Int) : (∃ v, x = .ok v) ∨ x = Lib.NumEnd.syntax ∨ x = .range := by cases x <;> simp
theorem parseInt_any (s : ByteArray) (w : World) (hl : s.size ≤ 281474976710656) (he : Env w) :
    Calls Tryz.prog 90 #[.string s, .int .i64 10, .int .i64 64] w (ParsePost w s.data.toList) := by
  obtain ⟨h1, h2, ⟨t3, p3, h3⟩, ⟨t4, p4, h4⟩⟩ := he
  rcases parse_cases (Lib.parseIntB 64 s.data.toList) with ⟨v, hp⟩ | hp | hp
  · refine (Tryz.strconv_ParseInt_10_at64_ok s (by omega) v hp w).mono ?_
    rintro e w' ⟨rfl, hw⟩
    refine .inl ⟨v, rfl, hp, ?_⟩
    rcases hw with rfl | ⟨t, rfl⟩
    · exact Below.refl _ _
    · exact Lib.bytesWorld_below _ _ _
  · refine (Tryz.strconv_ParseInt_10_at64_syntax_var s hl hp t3 p3 w h3).mono ?_
    rintro e w' ⟨N, rfl, _, _, hb⟩
    exact .inr ⟨_, _, _, rfl, fun u => by rw [hp]; simp, hb⟩
  · refine (Tryz.strconv_ParseInt_10_at64_range_var s hl hp t4 p4 w h4).mono ?_
    rintro e w' ⟨N, rfl, _, _, hb⟩
    exact .inr ⟨_, _, _, rfl, fun u => by rw [hp]; simp, hb⟩
theorem formatInt_all (x : Int) (w : World) (h0 : -9223372036854775808 ≤ x) (h1 : x ≤ 9223372036854775807) (hp : Pow w) :
    Calls Tryz.prog 70 #[.int .i64 x, .int .i64 10] w (StrPost w (Lib.itoa x)) := by
  refine (Tryz.strconv_FormatInt_10 x h0 h1 w hp).mono ?_
  rintro e w' ⟨rfl, k, os, rfl⟩
  exact ⟨rfl, Lib.below_grow _ _ (Nat.le_refl _) _ _⟩

theorem updTrans {b : Nat} {w0 w1 w2 : World} (h : Upd (· = b) w0 w1) (g : Below w1.heap.size w1 w2) : Upd (· = b) w0 w2 := h.trans (Upd.of_below g)
/-- at a panic: what may have changed, and that the lines are as they were -/
structure Pan (b : Nat) (k : Int) (X : Nat → Prop) (w w' : World) : Prop where
  upd : Upd X w w'
  lines : w'.cell? ⟨b, 2, none⟩ = some (.int .i64 k)
theorem Pan.pre {b : Nat} {k : Int} {X : Nat → Prop} {w w' w'' : World} (h : Pan b k X w' w'') (u : Upd X w w') : Pan b k X w w'' := ⟨u.trans h.upd, h.lines⟩
theorem Pan.mono {b : Nat} {k : Int} {X Y : Nat → Prop} {w w' : World} (h : Pan b k X w w') (f : ∀ y, X y → Y y) : Pan b k Y w w' := ⟨h.upd.mono (fun y _ e => f y e), h.lines⟩
def NumPost (w : World) (b : Nat) (vN vP : Value) (k : Int) (ws : List ByteArray) (e : Ending) (w' : World) : Prop :=
  (e = .panicked fell ∧ Pan b k (· = b) w w' ∧ ∀ x r, ws = x :: r → ∀ z, ¬ NumOK x.data.toList z) ∨
  ∃ x r vW z, ws = x :: r ∧ NumOK x.data.toList z ∧ e = .returned (.int .i64 z) ∧ Ob w' b 4 (parC vN vP k vW) ∧ Ws w' b vW r ∧ Upd (· = b) w w'
set_option maxHeartbeats 2000000 in
theorem number_any (w0 w : World) (b : Nat) (vN vP vW : Value) (k : Int) (ws : List ByteArray) (h : Ob w b 4 (parC vN vP k vW)) (g : Ws w b vW ws) (hE : Env w0) (h0 : Below w0.heap.size w0 w) (hb : w0.heap.size ≤ b) (hsz : ∀ x ∈ ws, x.size ≤ 281474976710656) :
    Calls Tryz.prog 77 #[.pointer (some ⟨b, 0, none⟩)] w (NumPost w b vN vP k ws) := by
  have HE := Lib.hid hE
  have H0 := Lib.hid h0
  have HZ := Lib.hid hsz
  clear hE h0 hsz
  go_enter Tryz.func77, Tryz.ntmps77
  go_wp2_with fail
  refine (word_any w b vN vP vW k ws h g).mono ?_
  rintro e w1 (⟨rfl, rfl, rfl⟩ | ⟨x, r, vW1, rfl, rfl, O1, W1, U1⟩)
  · exact ⟨rfl, .inl ⟨rfl, ⟨Upd.refl _ _, h.cell 2 (by omega)⟩, fun x r e => by cases e⟩⟩
  have hB1 : Below w0.heap.size w0 w1 := H0.out.trans (U1.below H0.out.size (by rintro q _ rfl; exact hb))
  have hsz1 := HZ.out x (List.mem_cons_self ..)
  clear h g
  go_wp2_with fail
  refine (parseInt_any x w1 hsz1 (env_below HE.out hB1)).mono ?_
  rintro e w2 (⟨v, rfl, hv, b2⟩ | ⟨v, t, y, rfl, hv, b2⟩)
  · have hbd := Lib.parseIntB_bounds hv
    have U2 := Lib.hid (updTrans U1 b2)
    have O2 := Lib.hid (O1.below b2 O1.lt)
    have W2 := Lib.hid (W1.upd (Upd.of_below b2))
    have HV := Lib.hid hv
    have hB2 := hB1.trans (b2.mono hB1.size)
    have HB2 := Lib.hid hB2
    have hv0 : -9223372036854775808 ≤ v := by have := hbd.1; omega
    have hv1 : v ≤ 9223372036854775807 := by have := hbd.2; omega
    clear b2 O1 W1 U1 hv hB1 hB2 hbd
    go_wp2_with fail
    refine (formatInt_all v w2 hv0 hv1 (env_below HE.out HB2.out).pow).mono ?_
    rintro e w3 ⟨rfl, b3⟩
    have U3 := Lib.hid (updTrans U2.out b3)
    have O3 := Lib.hid (O2.out.below b3 O2.out.lt)
    have W3 := Lib.hid (W2.out.upd (Upd.of_below b3))
    clear b3 U2 O2 W2
    by_cases hq : Lib.itoa v = x.data.toList
    · have hx : x = ⟨(Lib.itoa v).toArray⟩ := by rw [hq]
      have hn : NumOK x.data.toList v := ⟨HV.out, hq⟩
      have HN := Lib.hid hn
      clear hn hq HV
      subst hx
      go_wp2_with fail
      go_ret
      exact .inr ⟨_, r, vW1, v, rfl, HN.out, rfl, O3.out, W3.out, U3.out⟩
    · have hq2 : (Lib.itoa v == x.data.toList) = false := beq_eq_false_iff_ne.2 hq
      have hq3 : (Lib.itoa v == x.toList) = false := by rw [beq_eq_false_iff_ne, Go.ByteArray.toList_eq]; exact hq
      have hno : Hid (∀ z, ¬ NumOK x.data.toList z) := Lib.hid (fun z hz => by
        have e1 := HV.out.symm.trans hz.1
        injection e1 with e1
        subst e1
        exact hq hz.2)
      clear hq
      go_wp2_with (first | (go_at_call 41; refine (fail_any _ _).mono ?_; rintro e w' ⟨rfl, rfl⟩))
      exact ⟨rfl, .inl ⟨rfl, ⟨U3.out, O3.out.cell 2 (by omega)⟩, fun x' r' e z => by injection e with e1 _; subst e1; exact hno.out z⟩⟩
  · have U2 := Lib.hid (updTrans U1 b2)
    have O2 := Lib.hid (O1.below b2 O1.lt)
    have hno : Hid (∀ z, ¬ NumOK x.data.toList z) := Lib.hid (fun z hz => hv z hz.1)
    clear b2 O1 W1 U1 hv hB1
    go_wp2_with (first | (go_at_call 41; refine (fail_any _ _).mono ?_; rintro e w' ⟨rfl, rfl⟩))
    exact ⟨rfl, .inl ⟨rfl, ⟨U2.out, O2.out.cell 2 (by omega)⟩, fun x' r' e z => by injection e with e1 _; subst e1; exact hno.out z⟩⟩
end Go.Proofs.YtmeoepdmaffjjaaGreatDoor.text
