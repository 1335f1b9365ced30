/-
  Several texts in one: Ph, Pi, Pj, Pe, Pk, Ix, Sq, Val2, Sr, Pl, Ss, SqN, RdM, Rg.
-/
import Derived.Test.YtbenloeomjdkcaaGreatDoorRows
import Derived.Test.YtbenloeomjdkcaaGreatDoorPzM
import Derived.Test.YtbenloeomjdkcaaGreatDoorNetNN
import Derived.WalkKit
import Derived.ProofKit
import Derived.Lib.Hide
import Derived.OwnWalk
import Derived.Test.YtbenloeomjdkcaaGreatDoorTwM
import Derived.Test.YtbenloeomjdkcaaGreatDoorShelfC
import Derived.Lib.IndexMore
import Derived.Tactics2
import Derived.Defers
import Derived.Recover
import Derived.Test.YtbenloeomjdkcaaGreatDoorNetX
import Derived.Outline
import Derived.Test.YtbenloeomjdkcaaGreatDoorTxB
import Derived.Test.YtbenloeomjdkcaaGreatDoorOwn
import Derived.Deep.RegionHeld3
namespace Go.Proofs.YtbenloeomjdkcaaGreatDoor.text
open Go.RowKit Go.Proofs.YtbenloeomjdkcaaGreatDoor.mem
set_option linter.unusedVariables false
set_option maxRecDepth 100000

def wPipe : List UInt8 := [112, 105, 112, 101]
/-- the words of a line, and the network before it and with it -/
def LineOK (n : Nat) (N : Nat → Nod) (m : Nat) (P : Nat → Pip) (ps : List ByteArray) (n' : Nat) (N' : Nat → Nod) (m' : Nat) (P' : Nat → Pip) : Prop :=
  (m = 0 ∧ ∃ x0 x1 x2 lo hi, ps = [⟨wNode.toArray⟩, x0, x1, x2] ∧ NumOK x1.data.toList lo ∧ NumOK x2.data.toList hi ∧ n' = n + 1 ∧ N' = addN N n ⟨x0, lo, hi⟩ ∧ m' = m ∧ P' = P) ∨
  (∃ x0 x1 x2 x3 x4 kk vv ll, ps = [⟨wPipe.toArray⟩, x0, x1, x2, x3, x4] ∧ nnC n N m P x0 = 0 ∧ nnC n N m P x1 = 0 ∧ NumOK x2.data.toList kk ∧ NumOK x3.data.toList vv ∧ NumOK x4.data.toList ll ∧ n' = n ∧ N' = N ∧ m' = m + 1 ∧ P' = addP P m ⟨nnV n N m P x0, nnV n N m P x1, kk, vv, ll⟩)
theorem map_ba : ∀ (ps qs : List ByteArray), ps.map (·.data.toList) = qs.map (·.data.toList) → ps = qs
  | [], [], _ => rfl
  | [], q :: qs, h => by simp at h
  | p :: ps, [], h => by simp at h
  | p :: ps, q :: qs, h => by
    simp only [List.map_cons, List.cons.injEq] at h
    rw [map_ba ps qs h.2, ba_of h.1]
def RLG (w : World) (b B n : Nat) (N : Nat → Nod) (m : Nat) (P : Nat → Pip) (k : Int) (s : ByteArray) (e : Ending) (w' : World) : Prop :=
  (e = .panicked fell ∧ Pan b k (fun x => x = b ∨ B ≤ x) w w' ∧ ∀ ps, ps.map (·.data.toList) = sp 6 s.data.toList → ∀ n' N' m' P', LineOK n N m P ps n' N' m' P' → netB n' N' m' P' = false) ∨
  ∃ ps n' N' m' P' p1 c1 p2 c2 vW', ps.map (·.data.toList) = sp 6 s.data.toList ∧ LineOK n N m P ps n' N' m' P' ∧ netB n' N' m' P' = true ∧ e = .returned (.tuple #[]) ∧ Ob w' b 4 (parC (.slice p1 n' c1) (.slice p2 m' c2) k vW') ∧ RN B w' (.slice p1 n' c1) n' (nodC N') ∧ RP B w' (.slice p2 m' c2) m' (pipC P') ∧ (m' = 0 → p2 = none ∧ c2 = 0) ∧ Upd (fun x => x = b ∨ B ≤ x) w w'
theorem net_rows {B n m cN cP : Nat} {w : World} {pN pP : Option Addr} {N : Nat → Nod} {P : Nat → Pip} (h : RN B w (.slice pN n cN) n (nodC N)) (g : RP B w (.slice pP m cP) m (pipC P)) : NetAt w (.agg #[.slice pN n cN, .slice pP m cP]) n N m P 0 w.heap.size := by
  obtain ⟨g1, s1, _⟩ := RowE.ownS h
  obtain ⟨g2, s2, _⟩ := RowE.ownS g
  exact ⟨_, _, rfl, s1.cs (.inr rfl) (Nat.le_refl _), s2.cs (.inr rfl) (Nat.le_refl _)⟩
theorem add_names {n : Nat} {N : Nat → Nod} {q : Nod} (h : ∀ i, i < n → (N i).s.size ≤ 9223372036854775807) (hq : q.s.size ≤ 9223372036854775807) : ∀ i, i < n + 1 → (addN N n q i).s.size ≤ 9223372036854775807 := by
  intro i _
  unfold addN
  split
  · exact h i (by assumption)
  · exact hq

set_option maxHeartbeats 4000000 in
theorem readLineG (w0 w : World) (b B n m cN cP : Nat) (pN pP : Option Addr) (N : Nat → Nod) (P : Nat → Pip) (k : Int) (vW : Value) (s : ByteArray) (h : Ob w b 4 (parC (.slice pN n cN) (.slice pP m cP) k vW)) (hN : RN B w (.slice pN n cN) n (nodC N)) (hP : RP B w (.slice pP m cP) m (pipC P)) (h00 : m = 0 → pP = none ∧ cP = 0) (hn : n ≤ 1000) (hm : m ≤ 1000) (hsN : ∀ i, i < n → (N i).s.size ≤ 9223372036854775807) (hbB : b < B) (hBw : B ≤ w.heap.size) (hE : Env w0) (h0 : Below w0.heap.size w0 w) (hb : w0.heap.size ≤ b) (hs : s.size ≤ 1048576) :
    Calls Tryz.prog 47 #[.pointer (some ⟨b, 0, none⟩), .string s] w (RLG w b B n N m P k s) := by
  have HSN := Lib.hid hsN
  have H00 := Lib.hid h00
  clear hsN h00
  have HE := Lib.hid hE
  have H0 := Lib.hid h0
  obtain ⟨mx, hmx⟩ := (env_below hE h0).maxlen
  clear hE h0
  obtain ⟨ps, hps0⟩ : ∃ ps, ps = Lib.splitB ⟨#[32]⟩ 0 (min 7 (s.size + 1) - 1) s := ⟨_, rfl⟩
  obtain ⟨cp, hcp⟩ : ∃ cp, cp = min 7 (s.size + 1) := ⟨_, rfl⟩
  have hps : ps.map (·.data.toList) = sp 6 s.data.toList := by rw [hps0]; exact splitB_sp 6 s
  have hpl : ps.length ≤ cp := by rw [hps0, hcp]; have := Lib.splitB_length_le ⟨#[32]⟩ 0 (min 7 (s.size + 1) - 1) s; omega
  have hcp7 : cp ≤ 7 := by omega
  have hsp := Tryz.strings_SplitN s ⟨#[32]⟩ 7 mx w (by omega) hmx (by decide) (by omega) (by omega)
  rw [← hps0, ← hcp] at hsp
  obtain ⟨w1, hw1⟩ : ∃ w1, w1 = w.alloc (.cells (Lib.cellsOf ps cp) 9) := ⟨_, rfl⟩
  have HSP := Lib.hid (hsp.mono (fun e w' h => ⟨h.1, hw1.trans h.2.symm⟩) : Calls Tryz.prog 63 #[.string s, .string ⟨#[32]⟩, .int .i64 7] w fun e w' => e = .returned (.slice (some ⟨w.heap.size, 0, none⟩) ps.length cp) ∧ w1 = w')
  have hb1 : Below w.heap.size w w1 := by rw [hw1]; exact below_new _ _
  have hz1 : w1.heap.size = w.heap.size + 1 := by rw [hw1]; simp
  have hc1 : ∀ (i : Nat) x, ps[i]? = some x → w1.cell? ⟨w.heap.size, 0 + i, none⟩ = some (.string x) := fun i x hx => by
    have e := heap_alloc_new w (.cells (Lib.cellsOf ps cp) 9)
    rw [hw1]
    simp only [World.cell?, e]
    have := cellsOf_get ps cp i x hx
    simpa using this
  replace hz1 := Nat.le_antisymm_iff.1 hz1
  clear hw1
  have HPS := Lib.hid hps
  have hpsz : ∀ x ∈ ps, x.size ≤ 281474976710656 := fun x hx => by
    have h1 : x.data.toList ∈ sp 6 s.data.toList := by rw [← hps]; exact List.mem_map_of_mem hx
    have h2 := sp_size _ _ _ h1
    have e1 : x.data.toList.length = x.size := Array.length_toList
    have e2 : s.data.toList.length = s.size := Array.length_toList
    omega
  have HPZ := Lib.hid hpsz
  clear hsp hps hpsz hps0 hcp hmx
  have hbl := h.lt
  -- the words in a row of their own
  have O1 := h.below hb1 hbl
  have f3' : w1.frozen? ⟨b, 3, none⟩ = false := O1.free 3
  have g3' : w1.cell? ⟨b, 3, none⟩ = some vW := O1.cell 3 (by omega)
  have W1 : Ws w1 b (.slice (some ⟨w.heap.size, 0, none⟩) ps.length cp) ps := ⟨_, cp, rfl, hpl, by omega, .inr ⟨w.heap.size, 0, rfl, by omega, by omega, hc1⟩⟩
  have hO := (Only.refl b w1).setCell 3 (.slice (some ⟨w.heap.size, 0, none⟩) ps.length cp)
  have O2 := (O1.set 3 (.slice (some ⟨w.heap.size, 0, none⟩) ps.length cp) (by omega)).congr (e := parC (.slice pN n cN) (.slice pP m cP) k (.slice (some ⟨w.heap.size, 0, none⟩) ps.length cp)) (fun j hj => by rcases (by omega : j = 0 ∨ j = 1 ∨ j = 2 ∨ j = 3) with rfl | rfl | rfl | rfl <;> rfl)
  have W2 := W1.upd (Upd.of_only hO)
  have U2 : Upd (· = b) w _ := (Upd.of_below hb1).trans (Upd.of_only hO)
  have N2 := (RowE.next hN hb1).low (Upd.of_only hO) hbB
  have P2 := (RowE.next hP hb1).low (Upd.of_only hO) hbB
  clear O1 W1 hO h hc1 hb1 hN hP
  go_enter Tryz.func47, Tryz.ntmps47
  go_wp2_with (first | (go_at_call 63; refine HSP.out.mono ?_; rintro e w' ⟨rfl, rfl⟩))
  generalize hW : w1.setCell ⟨b, 3, none⟩ (.slice (some ⟨w.heap.size, 0, none⟩) ps.length cp) = w2 at *
  clear hW f3' g3'
  have bw : ∀ X : World, Upd (· = b) w X → Below w0.heap.size w0 X := fun X u => H0.out.trans (u.below H0.out.size (by rintro q _ rfl; exact hb))
  have BW := Lib.hid bw
  have hB2 : B ≤ w2.heap.size := Nat.le_trans hBw U2.size
  have HUQ : ∀ qs : List ByteArray, qs.map (·.data.toList) = sp 6 s.data.toList → qs = ps := fun qs e => map_ba _ _ (e.trans HPS.out.symm)
  have HUQ := Lib.hid HUQ
  refine (word_any w2 b _ _ _ k ps O2 W2).mono ?_
  rintro e w3 (⟨hnil, rfl, rfl⟩ | ⟨x, r, vW3, hxr, rfl, O3, W3, U3⟩)
  · subst hnil
    refine ⟨rfl, .inl ⟨rfl, ⟨upd_or U2, O2.cell 2 (by omega)⟩, fun qs e n' N' m' P' hl => ?_⟩⟩
    obtain rfl := HUQ.out qs e
    rcases hl with ⟨_, x0, x1, x2, lo, hi, h1, _⟩ | ⟨x0, x1, x2, x3, x4, kk, vv, ll, h1, _⟩ <;> cases h1
  have U23 := U2.trans U3
  have N3 := RowE.low N2 U3 hbB
  have P3 := RowE.low P2 U3 hbB
  clear U2 U3 O2 W2 bw N2 P2
  have hB3 : B ≤ w3.heap.size := Nat.le_trans hBw U23.size
  by_cases hnw : x = ⟨wNode.toArray⟩
  · have hx : x = ⟨#[110, 111, 100, 101]⟩ := hnw
    subst hx
    have HXR := Lib.hid hxr
    have B3 := BW.out _ U23
    have hr : ∀ y ∈ r, y.size ≤ 281474976710656 := fun y hy => HPZ.out y (by rw [HXR.out]; exact List.mem_cons_of_mem _ hy)
    have HU := Lib.hid U23
    clear hxr U23
    go_wp2_with fail
    refine (readNode_any w0 w3 b B n N (.slice pN n cN) vW3 pP m cP k r O3 W3 N3 hbB hB3 hn HE.out B3 hb hr).mono ?_
    rintro e w4 (⟨rfl, U4, hno⟩ | ⟨hm0, x0, x1, x2, r2, lo, hi, vN, pw, cw, hr2, n1, n2, rfl, O4, R4, U4⟩)
    · refine ⟨rfl, .inl ⟨rfl, ⟨(upd_or HU.out).trans U4.upd, U4.lines⟩, fun qs e n' N' m' P' hl => ?_⟩⟩
      obtain rfl := HUQ.out qs e
      rw [HXR.out] at hl
      rcases hl with ⟨hm0, x0, x1, x2, lo, hi, h1, n1, n2, _⟩ | ⟨x0, x1, x2, x3, x4, kk, vv, ll, h1, _⟩
      · injection h1 with _ h1
        exact (hno hm0 _ _ _ [] lo hi h1 n1 n2).elim
      · injection h1 with h1 _
        cases h1
    obtain ⟨rfl, rfl⟩ := H00.out hm0
    subst hm0
    have UU := Lib.hid ((upd_or HU.out).trans U4)
    have N1 := Lib.hid n1
    have N2 := Lib.hid n2
    have hB4 : B ≤ w4.heap.size := Nat.le_trans hB3 U4.size
    have HR2 := Lib.hid hr2
    have P4 : RP B w4 (.slice none 0 0) 0 (pipC P) := ⟨World.ownsRow_nil _ _ _ _⟩
    clear U4 n1 n2 hr2 hr B3 O3 W3 HU N3 P3
    obtain ⟨p4, c4, rfl⟩ := RowE.shape R4
    have a0 : w4.cell? ⟨b, 0, none⟩ = some (.slice p4 (n + 1) c4) := O4.cell 0 (by omega)
    have a1 : w4.cell? ⟨b, 1, none⟩ = some (.slice none 0 0) := O4.cell 1 (by omega)
    have a3 : w4.cell? ⟨b, 3, none⟩ = some (.slice pw r2.length cw) := O4.cell 3 (by omega)
    have O4H := Lib.hid O4
    have R4H := Lib.hid R4
    have P4H := Lib.hid P4
    rcases r2 with _ | ⟨y, r3⟩
    · have HNA := Lib.hid (net_rows R4 P4)
      have hz0 : x0.size ≤ 281474976710656 := HPZ.out x0 (by rw [HXR.out, HR2.out]; simp)
      clear O4 R4 P4
      go_wp2_with fail
      refine (isNetwork_any w4 _ (n + 1) _ 0 _ 0 _ HNA.out (Nat.le_refl _) (add_names HSN.out (by show x0.size ≤ _; omega))).mono ?_
      rintro e w5 ⟨rfl, b5⟩
      have U5 := Lib.hid (UU.out.trans (Upd.of_below b5))
      have O5 := Lib.hid (O4H.out.below b5 O4H.out.lt)
      have R5 := Lib.hid (RowE.next R4H.out b5)
      have P5 := Lib.hid (RowE.next P4H.out b5)
      have HLO : Hid (LineOK n N 0 P ps (n + 1) (addN N n ⟨x0, lo, hi⟩) 0 P) := Lib.hid (.inl ⟨rfl, x0, x1, x2, lo, hi, by rw [HXR.out, HR2.out]; rfl, N1.out, N2.out, rfl, rfl, rfl, rfl⟩)
      clear b5 a0 a1 a3
      cases hq : netB (n + 1) (addN N n ⟨x0, lo, hi⟩) 0 P
      · have HQ := Lib.hid hq
        clear hq
        go_wp2_with (first | (go_at_call 46; refine (fail_any _ _).mono ?_; rintro e w' ⟨rfl, rfl⟩))
        refine ⟨rfl, .inl ⟨rfl, ⟨U5.out, O5.out.cell 2 (by omega)⟩, fun qs e n' N' m' P' hl => ?_⟩⟩
        obtain rfl := HUQ.out qs e
        rw [HXR.out, HR2.out] at hl
        rcases hl with ⟨_, y0, y1, y2, lo', hi', h1, n1, n2, rfl, rfl, rfl, rfl⟩ | ⟨y0, y1, y2, y3, y4, kk, vv, ll, h1, _⟩
        · simp only [List.cons.injEq, and_true] at h1
          obtain ⟨_, rfl, rfl, rfl⟩ := h1
          obtain rfl := numOK_uniq N1.out n1
          obtain rfl := numOK_uniq N2.out n2
          exact HQ.out
        · injection h1 with h1 _
          cases h1
      · have HQ := Lib.hid hq
        clear hq
        go_wp2_with fail
        go_end0
        exact .inr ⟨ps, _, _, _, _, _, _, _, _, _, HPS.out, HLO.out, HQ.out, rfl, O5.out, R5.out, P5.out, fun _ => ⟨rfl, rfl⟩, U5.out⟩
    · have hlI : (0 : Int) < ((r3.length + 1 : Nat) : Int) := by omega
      simp only [List.length_cons] at a3
      clear O4 R4 P4
      go_wp2_with (first | (go_at_call 46; refine (fail_any _ _).mono ?_; rintro e w' ⟨rfl, rfl⟩))
      refine ⟨rfl, .inl ⟨rfl, ⟨UU.out, O4H.out.cell 2 (by omega)⟩, fun qs e n' N' m' P' hl => ?_⟩⟩
      obtain rfl := HUQ.out qs e
      rw [HXR.out, HR2.out] at hl
      rcases hl with ⟨_, y0, y1, y2, lo', hi', h1, _⟩ | ⟨y0, y1, y2, y3, y4, kk, vv, ll, h1, _⟩
      · simp at h1
      · injection h1 with h1 _
        cases h1
  have t1 : (x.toList == [110, 111, 100, 101]) = false := by rw [beq_eq_false_iff_ne, Go.ByteArray.toList_eq]; exact fun e => hnw (ba_of e)
  have B3 := BW.out _ U23
  have HXR := Lib.hid hxr
  have HNW := Lib.hid hnw
  have hr : ∀ y ∈ r, y.size ≤ 281474976710656 := fun y hy => HPZ.out y (by rw [hxr]; exact List.mem_cons_of_mem _ hy)
  have HU := Lib.hid U23
  clear hnw U23 hxr
  by_cases hp : x = ⟨#[112, 105, 112, 101]⟩
  · subst hp
    clear t1
    have hnn : ∀ (X : World) (z : ByteArray), Upd (· = b) w3 X → z.size ≤ 281474976710656 → Calls Tryz.prog 95 #[.agg #[.slice pN n cN, .slice pP m cP], .string z] X fun e w' => e = .returned (.tuple #[.int .i64 (nnV n N m P z), .int .i64 (nnC n N m P z)]) ∧ Below X.heap.size X w' := fun X z u hz =>
      nodeNamedI_any X _ n N m P 0 _ (net_rows (RowE.low N3 u hbB) (RowE.low P3 u hbB)) (Nat.le_refl _) HSN.out z (by omega)
    have HNN := Lib.hid hnn
    clear hnn
    go_wp2_with fail
    refine (readPipe_any w0 w3 b B n m cN cP pN pP P vW3 k (nnV n N m P) (nnC n N m P) r O3 W3 P3 hbB hB3 hm HE.out B3 hb hr HNN.out).mono ?_
    rintro e w4 (⟨rfl, U4, hno⟩ | ⟨x0, x1, x2, x3, x4, r2, kk, vv, ll, vP', pw, cw, hr2, c0, c1, n2, n3, n4, rfl, O4, R4, U4⟩)
    all_goals have hob : ∀ y, some y = (Value.slice pP m cP).ownBlock → B ≤ y := fun y e => (P3.own.lt y e.symm).1
    · refine ⟨rfl, .inl ⟨rfl, ⟨(upd_or HU.out).trans (U4.upd.mono (fun y _ e => e.imp id (hob y))), U4.lines⟩, fun qs e n' N' m' P' hl => ?_⟩⟩
      obtain rfl := HUQ.out qs e
      rw [HXR.out] at hl
      rcases hl with ⟨hm0, x0, x1, x2, lo, hi, h1, _⟩ | ⟨x0, x1, x2, x3, x4, kk, vv, ll, h1, c0, c1, n2, n3, n4, _⟩
      · injection h1 with h1 _
        cases h1
      · injection h1 with _ h1
        exact (hno _ _ _ _ _ [] kk vv ll h1 c0 c1 n2 n3 n4).elim
    have UU := Lib.hid ((upd_or (B := B) HU.out).trans (U4.mono (fun y _ e => e.imp id (hob y))))
    have N4 : RN B w4 (.slice pN n cN) n (nodC N) := RowE.keep N3 U4 (fun y hy e => by
      rcases e with e | e
      · have := (N3.own.lt y hy).1
        omega
      · exact mem.rows_apart N3 P3 (by decide) y hy e)
    obtain ⟨p4, c4, rfl⟩ := RowE.shape R4
    have HC0 := Lib.hid c0
    have HC1 := Lib.hid c1
    have HN2 := Lib.hid n2
    have HN3 := Lib.hid n3
    have HN4 := Lib.hid n4
    have HR2 := Lib.hid hr2
    clear U4 c0 c1 n2 n3 n4 hr2 hr B3 O3 W3 HU N3 P3 hob
    have a0 : w4.cell? ⟨b, 0, none⟩ = some (.slice pN n cN) := O4.cell 0 (by omega)
    have a1 : w4.cell? ⟨b, 1, none⟩ = some (.slice p4 (m + 1) c4) := O4.cell 1 (by omega)
    have a3 : w4.cell? ⟨b, 3, none⟩ = some (.slice pw r2.length cw) := O4.cell 3 (by omega)
    have O4H := Lib.hid O4
    have R4H := Lib.hid R4
    have N4H := Lib.hid N4
    rcases r2 with _ | ⟨y, r3⟩
    · have HNA := Lib.hid (net_rows N4 R4)
      clear O4 R4 N4
      go_wp2_with fail
      refine (isNetwork_any w4 _ n _ (m + 1) _ 0 _ HNA.out (Nat.le_refl _) HSN.out).mono ?_
      rintro e w5 ⟨rfl, b5⟩
      have U5 := Lib.hid (UU.out.trans (Upd.of_below b5))
      have O5 := Lib.hid (O4H.out.below b5 O4H.out.lt)
      have R5 := Lib.hid (RowE.next R4H.out b5)
      have N5 := Lib.hid (RowE.next N4H.out b5)
      have HLO : Hid (LineOK n N m P ps n N (m + 1) (addP P m ⟨nnV n N m P x0, nnV n N m P x1, kk, vv, ll⟩)) := Lib.hid (.inr ⟨x0, x1, x2, x3, x4, kk, vv, ll, by rw [HXR.out, HR2.out]; rfl, HC0.out, HC1.out, HN2.out, HN3.out, HN4.out, rfl, rfl, rfl, rfl⟩)
      clear b5 a0 a1 a3
      cases hq : netB n N (m + 1) (addP P m ⟨nnV n N m P x0, nnV n N m P x1, kk, vv, ll⟩)
      · have HQ := Lib.hid hq
        clear hq
        go_wp2_with (first | (go_at_call 46; refine (fail_any _ _).mono ?_; rintro e w' ⟨rfl, rfl⟩))
        refine ⟨rfl, .inl ⟨rfl, ⟨U5.out, O5.out.cell 2 (by omega)⟩, fun qs e n' N' m' P' hl => ?_⟩⟩
        obtain rfl := HUQ.out qs e
        rw [HXR.out, HR2.out] at hl
        rcases hl with ⟨_, y0, y1, y2, lo', hi', h1, _⟩ | ⟨y0, y1, y2, y3, y4, kk', vv', ll', h1, _, _, n2, n3, n4, rfl, rfl, rfl, rfl⟩
        · injection h1 with h1 _
          cases h1
        · simp only [List.cons.injEq, and_true] at h1
          obtain ⟨_, rfl, rfl, rfl, rfl, rfl⟩ := h1
          obtain rfl := numOK_uniq HN2.out n2
          obtain rfl := numOK_uniq HN3.out n3
          obtain rfl := numOK_uniq HN4.out n4
          exact HQ.out
      · have HQ := Lib.hid hq
        clear hq
        go_wp2_with fail
        go_end0
        exact .inr ⟨ps, _, _, _, _, _, _, _, _, _, HPS.out, HLO.out, HQ.out, rfl, O5.out, N5.out, R5.out, fun e => by omega, U5.out⟩
    · have hlI : (0 : Int) < ((r3.length + 1 : Nat) : Int) := by omega
      simp only [List.length_cons] at a3
      clear O4 R4 N4
      go_wp2_with (first | (go_at_call 46; refine (fail_any _ _).mono ?_; rintro e w' ⟨rfl, rfl⟩))
      refine ⟨rfl, .inl ⟨rfl, ⟨UU.out, O4H.out.cell 2 (by omega)⟩, fun qs e n' N' m' P' hl => ?_⟩⟩
      obtain rfl := HUQ.out qs e
      rw [HXR.out, HR2.out] at hl
      rcases hl with ⟨_, y0, y1, y2, lo', hi', h1, _⟩ | ⟨y0, y1, y2, y3, y4, kk', vv', ll', h1, _⟩
      · injection h1 with h1 _
        cases h1
      · simp at h1
  · have t2 : (x.toList == [112, 105, 112, 101]) = false := by rw [beq_eq_false_iff_ne, Go.ByteArray.toList_eq]; exact fun e => hp (ba_of e)
    have HPW := Lib.hid hp
    clear hp
    go_wp2_with (first | (go_at_call 46; refine (fail_any _ _).mono ?_; rintro e w' ⟨rfl, rfl⟩))
    refine ⟨rfl, .inl ⟨rfl, ⟨upd_or HU.out, O3.cell 2 (by omega)⟩, fun qs e n' N' m' P' hl => ?_⟩⟩
    obtain rfl := HUQ.out qs e
    rw [HXR.out] at hl
    rcases hl with ⟨_, y0, y1, y2, lo', hi', h1, _⟩ | ⟨y0, y1, y2, y3, y4, kk', vv', ll', h1, _⟩
    · injection h1 with h1 _
      exact absurd h1 HNW.out
    · injection h1 with h1 _
      exact absurd h1 HPW.out
end Go.Proofs.YtbenloeomjdkcaaGreatDoor.text

namespace Go.Proofs.YtbenloeomjdkcaaGreatDoor.text
open Go.RowKit Go.Proofs.YtbenloeomjdkcaaGreatDoor.mem
set_option linter.unusedVariables false

theorem pipeL_cat (N : Nat → Nod) (q : Pip) : pipeL N q = wPipe ++ 32 :: ((N q.f.toNat).s.data.toList ++ 32 :: ((N q.t.toNat).s.data.toList ++ 32 :: (Lib.decDigits q.k.toNat ++ 32 :: (Lib.decDigits q.v.toNat ++ 32 :: Lib.decDigits q.l.toNat)))) := by
  unfold pipeL wPipe
  simp [numsL]
theorem name_of {q : Nod} (h : nodB q = true) : nameB q.s = true := by
  unfold nodB at h
  simp only [Bool.and_eq_true] at h
  exact h.1.1.1
theorem sp_pipe {N : Nat → Nod} {q : Pip} (hf : nodB (N q.f.toNat) = true) (ht : nodB (N q.t.toNat) = true) (k : Nat) : sp (k + 5) (pipeL N q) = [wPipe, (N q.f.toNat).s.data.toList, (N q.t.toNat).s.data.toList, Lib.decDigits q.k.toNat, Lib.decDigits q.v.toNat, Lib.decDigits q.l.toNat] := by
  rw [pipeL_cat, sp_one (by unfold wPipe; decide), sp_one (name_noblank (name_of hf)), sp_one (name_noblank (name_of ht)), sp_one (dec_noblank _), sp_one (dec_noblank _), sp_end (dec_noblank _)]
theorem sp_cat6 {k : Nat} {s a b c d e f : List UInt8} (h : sp k s = [a, b, c, d, e, f]) : s = a ++ 32 :: (b ++ 32 :: (c ++ 32 :: (d ++ 32 :: (e ++ 32 :: f)))) := by
  have := sp_join k s
  rw [h] at this
  rw [← this]
  simp [Lib.join, List.intercalate, List.intersperse]
theorem nodesT_congr {N M : Nat → Nod} : ∀ {k : Nat}, (∀ i, i < k → N i = M i) → nodesT N k = nodesT M k
  | 0, _ => rfl
  | k + 1, h => by
    unfold nodesT
    rw [nodesT_congr (k := k) (fun i hi => h i (by omega)), h k (by omega)]
theorem pipesT_congr {N : Nat → Nod} {P Q : Nat → Pip} : ∀ {k : Nat}, (∀ i, i < k → P i = Q i) → pipesT N P k = pipesT N Q k
  | 0, _ => rfl
  | k + 1, h => by
    unfold pipesT
    rw [pipesT_congr (k := k) (fun i hi => h i (by omega)), h k (by omega)]
theorem nn_facts {n : Nat} {N : Nat → Nod} {m : Nat} {P : Nat → Pip} {x : ByteArray} (h : nnC n N m P x = 0) : netB n N m P = true ∧ ∃ i : Nat, nnV n N m P x = i ∧ i < n ∧ (N i).s = x := by
  unfold nnC at h
  split at h
  · rename_i hb
    split at h
    · rename_i hs
      refine ⟨hb, ?_⟩
      obtain ⟨i, hi⟩ := Option.isSome_iff_exists.1 hs
      refine ⟨i, by unfold nnV; rw [if_pos hb, hi]; rfl, ?_⟩
      unfold nnF at hi
      rw [List.find?_range_eq_some] at hi
      exact ⟨by simpa using hi.2.1, nnP_iff.1 hi.1⟩
    · cases h
  · cases h
theorem net_nodes {n : Nat} {N : Nat → Nod} {m : Nat} {P : Nat → Pip} (h : netB n N m P = true) : (∀ i, i < n → nodB (N i) = true) ∧ ∀ i, i < m → pipB n (P i) = true := by
  unfold netB at h
  simp only [Bool.and_eq_true] at h
  exact ⟨(nodesB_iff.1 h.1.2).1, pipesB_iff.1 h.2⟩
/-- a right line is what the text grows by -/
theorem lineOK_text {n : Nat} {N : Nat → Nod} {m : Nat} {P : Nat → Pip} {ps : List ByteArray} {n' : Nat} {N' : Nat → Nod} {m' : Nat} {P' : Nat → Pip} {s : List UInt8} (h : LineOK n N m P ps n' N' m' P') (hb : netB n' N' m' P' = true) (hps : ps.map (·.data.toList) = sp 6 s) : netL n' N' m' P' = netL n N m P ++ (s ++ [10]) := by
  obtain ⟨hN, hP⟩ := net_nodes hb
  rcases h with ⟨rfl, x0, x1, x2, lo, hi, rfl, n1, n2, rfl, rfl, rfl, rfl⟩ | ⟨x0, x1, x2, x3, x4, kk, vv, ll, rfl, c0, c1, n2, n3, n4, rfl, rfl, rfl, rfl⟩
  · have hq : nodB ⟨x0, lo, hi⟩ = true := by
      have := hN n (by omega)
      unfold addN at this
      simpa using this
    obtain ⟨_, a, b⟩ := nod_bd hq
    have e : s = wNode ++ 32 :: (x0.data.toList ++ 32 :: (x1.data.toList ++ 32 :: x2.data.toList)) := sp_cat4 hps.symm
    have e1 : Lib.decDigits lo.toNat = x1.data.toList := (itoa_nat a.1).symm.trans n1.2
    have e2 : Lib.decDigits hi.toNat = x2.data.toList := (itoa_nat b.1).symm.trans n2.2
    have el : nodeL ⟨x0, lo, hi⟩ = s := by
      rw [nodeL_cat, e]
      show wNode ++ 32 :: (x0.data.toList ++ 32 :: (Lib.decDigits lo.toNat ++ 32 :: Lib.decDigits hi.toNat)) = _
      rw [e1, e2]
    have ea : addN N n ⟨x0, lo, hi⟩ n = ⟨x0, lo, hi⟩ := by unfold addN; simp
    have ec : nodesT (addN N n ⟨x0, lo, hi⟩) n = nodesT N n := nodesT_congr (fun i hi => by unfold addN; rw [if_pos hi])
    unfold netL
    rw [show nodesT (addN N n ⟨x0, lo, hi⟩) (n + 1) = nodesT (addN N n ⟨x0, lo, hi⟩) n ++ (nodeL (addN N n ⟨x0, lo, hi⟩ n) ++ [10]) from rfl, ec, ea, el]
    simp [pipesT]
  · obtain ⟨hb0, i, hi, hin, hi2⟩ := nn_facts c0
    obtain ⟨_, j, hj, hjn, hj2⟩ := nn_facts c1
    rw [hi, hj] at hP ⊢
    have hq : pipB n' ⟨i, j, kk, vv, ll⟩ = true := by
      have := hP m (by omega)
      unfold addP at this
      simpa using this
    unfold pipB at hq
    simp only [Bool.and_eq_true] at hq
    have hk := inR_iff.1 hq.1.1.2
    have hv := inR_iff.1 hq.1.2
    have hl := inR_iff.1 hq.2
    have e : s = wPipe ++ 32 :: (x0.data.toList ++ 32 :: (x1.data.toList ++ 32 :: (x2.data.toList ++ 32 :: (x3.data.toList ++ 32 :: x4.data.toList)))) := sp_cat6 hps.symm
    have e2 : Lib.decDigits kk.toNat = x2.data.toList := (itoa_nat (by omega)).symm.trans n2.2
    have e3 : Lib.decDigits vv.toNat = x3.data.toList := (itoa_nat (by omega)).symm.trans n3.2
    have e4 : Lib.decDigits ll.toNat = x4.data.toList := (itoa_nat (by omega)).symm.trans n4.2
    have el : pipeL N' ⟨i, j, kk, vv, ll⟩ = s := by
      rw [pipeL_cat, e]
      show wPipe ++ 32 :: ((N' (i : Int).toNat).s.data.toList ++ 32 :: ((N' (j : Int).toNat).s.data.toList ++ 32 :: (Lib.decDigits kk.toNat ++ 32 :: (Lib.decDigits vv.toNat ++ 32 :: Lib.decDigits ll.toNat)))) = _
      rw [Int.toNat_natCast, Int.toNat_natCast, hi2, hj2, e2, e3, e4]
    have ea : addP P m ⟨i, j, kk, vv, ll⟩ m = ⟨i, j, kk, vv, ll⟩ := by unfold addP; simp
    have ec : pipesT N' (addP P m ⟨i, j, kk, vv, ll⟩) m = pipesT N' P m := pipesT_congr (fun i hi => by unfold addP; rw [if_pos hi])
    unfold netL
    rw [show pipesT N' (addP P m ⟨i, j, kk, vv, ll⟩) (m + 1) = pipesT N' (addP P m ⟨i, j, kk, vv, ll⟩) m ++ (pipeL N' (addP P m ⟨i, j, kk, vv, ll⟩ m) ++ [10]) from rfl, ec, ea, el]
    simp
theorem dist_eq {n : Nat} {N : Nat → Nod} (hd : distP N n) {i j : Nat} (hi : i < n) (hj : j < n) (h : (N i).s = (N j).s) : i = j := by
  rcases Nat.lt_trichotomy i j with g | g | g
  · exact absurd h (hd i j g hj)
  · exact g
  · exact absurd h.symm (hd j i g hi)
theorem pip_bd {n : Nat} {q : Pip} (h : pipB n q = true) : ∃ f t : Nat, q.f = f ∧ q.t = t ∧ f < n ∧ t < n ∧ 0 ≤ q.k ∧ 0 ≤ q.v ∧ 0 ≤ q.l := by
  unfold pipB at h
  simp only [Bool.and_eq_true] at h
  have h1 := inR_iff.1 h.1.1.1.1.1
  have h2 := inR_iff.1 h.1.1.1.1.2
  have h3 := inR_iff.1 h.1.1.2
  have h4 := inR_iff.1 h.1.2
  have h5 := inR_iff.1 h.2
  exact ⟨q.f.toNat, q.t.toNat, by omega, by omega, by omega, by omega, by omega, by omega, by omega⟩
/-- one pipe has a line -/
theorem pipe_uniq {n : Nat} {N : Nat → Nod} {q r : Pip} (hN : ∀ i, i < n → nodB (N i) = true) (hd : distP N n) (hq : pipB n q = true) (hr : pipB n r = true) (h : pipeL N q = pipeL N r) : q = r := by
  obtain ⟨f, t, e1, e2, f1, t1, k0, v0, l0⟩ := pip_bd hq
  obtain ⟨f', t', e1', e2', f1', t1', k0', v0', l0'⟩ := pip_bd hr
  have s1 := sp_pipe (N := N) (q := q) (hN _ (by omega)) (hN _ (by omega)) 0
  have s2 := sp_pipe (N := N) (q := r) (hN _ (by omega)) (hN _ (by omega)) 0
  rw [h, s2] at s1
  simp only [List.cons.injEq, and_true, true_and] at s1
  obtain ⟨a1, a2, a3, a4, a5⟩ := s1
  have b1 : r.f.toNat = q.f.toNat := dist_eq hd (by omega) (by omega) (by rw [ba_of a1.symm, ba_of (rfl : (N r.f.toNat).s.data.toList = _)])
  have b2 : r.t.toNat = q.t.toNat := dist_eq hd (by omega) (by omega) (by rw [ba_of a2.symm, ba_of (rfl : (N r.t.toNat).s.data.toList = _)])
  have b3 := dec_inj a3
  have b4 := dec_inj a4
  have b5 := dec_inj a5
  obtain ⟨qf, qt, qk, qv, ql⟩ := q
  obtain ⟨rf, rt, rk, rv, rl⟩ := r
  simp only [Pip.mk.injEq] at *
  omega
theorem dec_noline (n : Nat) : (10 : UInt8) ∉ Lib.decDigits n := fun h => by
  have := isDig_iff.1 (dec_dig n _ h)
  revert this
  decide
theorem name_noline {s : ByteArray} (h : nameB s = true) : (10 : UInt8) ∉ s.data.toList := fun e => by
  unfold nameB at h
  simp only [Bool.and_eq_true, List.all_eq_true] at h
  have := chr_iff.1 (h.2 10 e)
  simp at this
theorem nodeL_noline {q : Nod} (h : nodB q = true) : (10 : UInt8) ∉ nodeL q := by
  rw [nodeL_cat]
  have h1 := name_noline (name_of h)
  have h2 := dec_noline q.lo.toNat
  have h3 := dec_noline q.hi.toNat
  unfold wNode
  simp [h1, h2, h3]
theorem pipeL_noline {N : Nat → Nod} {q : Pip} (hf : nodB (N q.f.toNat) = true) (ht : nodB (N q.t.toNat) = true) : (10 : UInt8) ∉ pipeL N q := by
  rw [pipeL_cat]
  have h1 := name_noline (name_of hf)
  have h2 := name_noline (name_of ht)
  have h3 := dec_noline q.k.toNat
  have h4 := dec_noline q.v.toNat
  have h5 := dec_noline q.l.toNat
  unfold wPipe
  simp [h1, h2, h3, h4, h5]
def glue (A : List (List UInt8)) : List UInt8 := A.flatMap (· ++ [10])
theorem glue_inj : ∀ (A B : List (List UInt8)), (∀ a ∈ A, (10 : UInt8) ∉ a) → (∀ b ∈ B, (10 : UInt8) ∉ b) → glue A = glue B → A = B
  | [], [], _, _, _ => rfl
  | [], b :: B, _, _, h => by simp [glue] at h
  | a :: A, [], _, _, h => by simp [glue] at h
  | a :: A, b :: B, hA, hB, h => by
    have e1 : glue (a :: A) = a ++ 10 :: glue A := by simp [glue]
    have e2 : glue (b :: B) = b ++ 10 :: glue B := by simp [glue]
    have c1 := nl.cut_at (a := a) (t := glue A) (hA a (List.mem_cons_self ..))
    have c2 := nl.cut_at (a := b) (t := glue B) (hB b (List.mem_cons_self ..))
    rw [← e1, h, e2] at c1
    have ea : a = b := c1.1.symm.trans c2.1
    have eb : glue A = glue B := c1.2.symm.trans c2.2
    rw [ea, glue_inj A B (fun x hx => hA x (List.mem_cons_of_mem _ hx)) (fun x hx => hB x (List.mem_cons_of_mem _ hx)) eb]
theorem glue_app (A B : List (List UInt8)) : glue (A ++ B) = glue A ++ glue B := by simp [glue]
theorem nodesT_glue (N : Nat → Nod) : ∀ k, nodesT N k = glue ((List.range k).map (fun i => nodeL (N i)))
  | 0 => rfl
  | k + 1 => by
    rw [List.range_succ, List.map_append, glue_app, ← nodesT_glue N k]
    simp [nodesT, glue]
theorem pipesT_glue (N : Nat → Nod) (P : Nat → Pip) : ∀ k, pipesT N P k = glue ((List.range k).map (fun i => pipeL N (P i)))
  | 0 => rfl
  | k + 1 => by
    rw [List.range_succ, List.map_append, glue_app, ← pipesT_glue N P k]
    simp [pipesT, glue]
/-- the lines of a network -/
def lns (n : Nat) (N : Nat → Nod) (m : Nat) (P : Nat → Pip) : List (List UInt8) := (List.range n).map (fun i => nodeL (N i)) ++ (List.range m).map (fun i => pipeL N (P i))
theorem netL_glue (n : Nat) (N : Nat → Nod) (m : Nat) (P : Nat → Pip) : netL n N m P = glue (lns n N m P) := by
  unfold netL lns
  rw [glue_app, nodesT_glue, pipesT_glue]
theorem lns_noline {n : Nat} {N : Nat → Nod} {m : Nat} {P : Nat → Pip} (h : netB n N m P = true) : ∀ a ∈ lns n N m P, (10 : UInt8) ∉ a := by
  obtain ⟨hN, hP⟩ := net_nodes h
  intro a ha
  unfold lns at ha
  simp only [List.mem_append, List.mem_map, List.mem_range] at ha
  rcases ha with ⟨i, hi, rfl⟩ | ⟨i, hi, rfl⟩
  · exact nodeL_noline (hN i hi)
  · obtain ⟨f, t, e1, e2, f1, t1, _⟩ := pip_bd (hP i hi)
    exact pipeL_noline (hN _ (by omega)) (hN _ (by omega))
def isN (l : List UInt8) : Bool := l.head? == some 110
theorem lns_count (n : Nat) (N : Nat → Nod) (m : Nat) (P : Nat → Pip) : (lns n N m P).countP isN = n := by
  unfold lns
  have a : ((List.range n).map (fun i => nodeL (N i))).countP isN = n := by
    rw [List.countP_map, List.countP_eq_length.2]
    · simp
    · intro i _
      show isN (nodeL (N i)) = true
      rw [nodeL_cat]
      rfl
  have b : ((List.range m).map (fun i => pipeL N (P i))).countP isN = 0 := by
    rw [List.countP_map, List.countP_eq_zero]
    intro i _
    show ¬ isN (pipeL N (P i)) = true
    rw [pipeL_cat]
    show ¬ ((some (112 : UInt8)) == some 110) = true
    decide
  rw [List.countP_append, a, b]
  rfl
/-- a text is that of one network -/
theorem netL_inj {n : Nat} {N : Nat → Nod} {m : Nat} {P : Nat → Pip} {n' : Nat} {N' : Nat → Nod} {m' : Nat} {P' : Nat → Pip} (h : netB n N m P = true) (g : netB n' N' m' P' = true) (e : netL n N m P = netL n' N' m' P') : n = n' ∧ m = m' ∧ (∀ i, i < n → N i = N' i) ∧ ∀ i, i < m → P i = P' i := by
  rw [netL_glue, netL_glue] at e
  have e2 := glue_inj _ _ (lns_noline h) (lns_noline g) e
  have c := lns_count n N m P
  rw [e2, lns_count] at c
  subst c
  have l := congrArg List.length e2
  unfold lns at l e2
  simp only [List.length_append, List.length_map, List.length_range] at l
  obtain rfl : m = m' := by omega
  obtain ⟨hN, hP⟩ := net_nodes h
  obtain ⟨gN, gP⟩ := net_nodes g
  obtain ⟨i1, i2⟩ := List.append_inj e2 (by simp)
  have hNN : ∀ i, i < n' → N i = N' i := fun i hi => by
    have := congrArg (·[i]?) i1
    simp [hi] at this
    exact node_uniq (hN i hi) (gN i hi) this
  refine ⟨rfl, rfl, hNN, fun i hi => ?_⟩
  have := congrArg (·[i]?) i2
  simp [hi] at this
  obtain ⟨f, t, e1, e2', f1, t1, _⟩ := pip_bd (hP i hi)
  refine pipe_uniq hN (nodes_of h) (hP i hi) (gP i hi) (this.trans ?_)
  obtain ⟨f', t', e1', e2', f1', t1', _⟩ := pip_bd (gP i hi)
  unfold pipeL
  rw [hNN _ (by omega), hNN _ (by omega)]
end Go.Proofs.YtbenloeomjdkcaaGreatDoor.text

namespace Go.Proofs.YtbenloeomjdkcaaGreatDoor.text
open Go.RowKit Go.Proofs.YtbenloeomjdkcaaGreatDoor.mem
set_option linter.unusedVariables false
set_option maxRecDepth 100000

/-- right lines, one after another -/
inductive Chain : Nat → (Nat → Nod) → Nat → (Nat → Pip) → List (List UInt8) → Prop
  | nil (N : Nat → Nod) (P : Nat → Pip) : Chain 0 N 0 P []
  | snoc {n : Nat} {N : Nat → Nod} {m : Nat} {P : Nat → Pip} {ls : List (List UInt8)} {s : List UInt8} {ps : List ByteArray} {n' : Nat} {N' : Nat → Nod} {m' : Nat} {P' : Nat → Pip} :
      Chain n N m P ls → ps.map (·.data.toList) = sp 6 s → LineOK n N m P ps n' N' m' P' → netB n' N' m' P' = true → Chain n' N' m' P' (ls ++ [s])
/-- what is left of a text is no further right line -/
def NoStep (n : Nat) (N : Nat → Nod) (m : Nat) (P : Nat → Pip) (ls : List (List UInt8)) (rest : List UInt8) : Prop :=
  ((10 : UInt8) ∉ rest ∧ (ls = [] ∨ rest ≠ [])) ∨ ∃ a t, (10 : UInt8) ∉ a ∧ rest = a ++ 10 :: t ∧ ∀ ps : List ByteArray, ps.map (·.data.toList) = sp 6 a → ∀ n' N' m' P', LineOK n N m P ps n' N' m' P' → netB n' N' m' P' = false
theorem chain_bd {n : Nat} {N : Nat → Nod} {m : Nat} {P : Nat → Pip} {ls : List (List UInt8)} (h : Chain n N m P ls) : n ≤ 1000 ∧ m ≤ 1000 ∧ ∀ i, i < n → (N i).s.size ≤ 9223372036854775807 := by
  cases h with
  | nil => exact ⟨by omega, by omega, fun i hi => by omega⟩
  | snoc _ _ _ hb =>
    have hz := net_sz hb
    refine ⟨by omega, by omega, fun i hi => ?_⟩
    have := (nod_bd ((net_nodes hb).1 i hi)).1
    omega
theorem cut_no {l : List UInt8} (h : (10 : UInt8) ∉ l) : Lib.cut l [10] = (l, [], false) := by
  unfold Lib.cut
  rw [nl.index_no h]
  simp
theorem cut_yes {a t : List UInt8} (h : (10 : UInt8) ∉ a) : Lib.cut (a ++ 10 :: t) [10] = (a, t, true) := by
  unfold Lib.cut
  rw [nl.index_at h]
  have h0 : ¬ ((a.length : Int) < 0) := by omega
  simp
def RTPost (w : World) (b B : Nat) (s : List UInt8) (e : Ending) (w' : World) : Prop :=
  (e = .panicked fell ∧ Upd (fun x => x = b ∨ B ≤ x) w w' ∧ ∃ n N m P ls rest, Chain n N m P ls ∧ s = glue ls ++ rest ∧ w'.cell? ⟨b, 2, none⟩ = some (.int .i64 (ls.length : Nat)) ∧ NoStep n N m P ls rest) ∨
  ∃ n N m P ls p1 c1 p2 c2 vW', ls ≠ [] ∧ Chain n N m P ls ∧ s = glue ls ∧ e = .returned (.tuple #[]) ∧ Ob w' b 4 (parC (.slice p1 n c1) (.slice p2 m c2) (ls.length : Nat) vW') ∧ RN B w' (.slice p1 n c1) n (nodC N) ∧ RP B w' (.slice p2 m c2) m (pipC P) ∧ Upd (fun x => x = b ∨ B ≤ x) w w'
def strSize (v : Value) : Nat := match v with
  | .string x => x.size
  | _ => 0
/-- how far the reading has come -/
structure Sofar (w : World) (b B : Nat) (s : List UInt8) (fb : Bool) (rest : ByteArray) (wr : World) : Prop where
  ex : ∃ n N m P ls p1 c1 p2 c2 vW', fb = ls.isEmpty ∧ Chain n N m P ls ∧ s = glue ls ++ rest.data.toList ∧ Ob wr b 4 (parC (.slice p1 n c1) (.slice p2 m c2) (ls.length : Nat) vW') ∧ RN B wr (.slice p1 n c1) n (nodC N) ∧ RP B wr (.slice p2 m c2) m (pipC P) ∧ (m = 0 → p2 = none ∧ c2 = 0) ∧ Upd (fun x => x = b ∨ B ≤ x) w wr
  sz : rest.size ≤ 1048576

set_option maxHeartbeats 4000000 in
theorem readText_any (w0 w : World) (b B : Nat) (vW : Value) (s : ByteArray) (h : Ob w b 4 (parC (.slice none 0 0) (.slice none 0 0) 0 vW)) (hbB : b < B) (hBw : B ≤ w.heap.size) (hE : Env w0) (h0 : Below w0.heap.size w0 w) (hb : w0.heap.size ≤ b) (hs : s.size ≤ 1048576) :
    Calls Tryz.prog 21 #[.pointer (some ⟨b, 0, none⟩), .string s] w (RTPost w b B s.data.toList) := by
  have HE := Lib.hid hE
  have H0 := Lib.hid h0
  have bw : ∀ X : World, Upd (fun x => x = b ∨ B ≤ x) w X → Below w0.heap.size w0 X := fun X u => H0.out.trans (u.below H0.out.size (by
    have := H0.out.size
    rintro q _ (rfl | hq) <;> omega))
  have BW := Lib.hid bw
  have S0 : Sofar w b B s.data.toList true s w := ⟨⟨0, fun _ => ⟨⟨#[]⟩, 0, 0⟩, 0, fun _ => ⟨0, 0, 0, 0, 0⟩, [], none, 0, none, 0, vW, rfl, .nil _ _, rfl, h, ⟨World.ownsRow_nil _ _ _ _⟩, ⟨World.ownsRow_nil _ _ _ _⟩, fun _ => ⟨rfl, rfl⟩, Upd.refl _ _⟩, hs⟩
  have HT := Lib.hid (rfl : s.data.toList = s.data.toList)
  have hstl : s.data.toList.length ≤ 1048576 := by
    have e : s.data.toList.length = s.size := Array.length_toList
    omega
  generalize hst : s.data.toList = st at S0 hstl ⊢
  clear h hE h0 bw hst HT
  go_enter Tryz.func21, Tryz.ntmps21
  go_wp2_with fail
  go_loopw [4, 1] (fun fi sv wr => ∃ (fb : Bool) (rest : ByteArray), fi = .bool fb ∧ sv = .string rest ∧ Sofar w b B st fb rest wr) (fun _ sv _ => strSize sv)
  case atStart => exact ⟨true, s, rfl, rfl, S0⟩
  case round =>
    obtain ⟨fb, rest, rfl, rfl, hS⟩ := hrel
    clear S0
    obtain ⟨⟨n, N, m, P, ls, p1, c1, p2, c2, vW', hfb, hC, hst, O, RNn, RPp, h00, U⟩, hz⟩ := hS
    have HC := Lib.hid hC
    have HST := Lib.hid hst
    have hUs := U.size
    by_cases hgo : fb = false ∧ rest.toList.isEmpty = true
    · obtain ⟨rfl, he⟩ := hgo
      have hr0 : rest.data.toList = [] := by rw [← Go.ByteArray.toList_eq]; simpa using he
      have hne : ls ≠ [] := by rintro rfl; cases hfb
      have HP := Lib.hid (⟨n, N, m, P, ls, p1, c1, p2, c2, vW', hne, hC, by rw [hst, hr0, List.append_nil], O, RNn, RPp, U⟩ : ∃ n N m P ls p1 c1 p2 c2 vW', ls ≠ [] ∧ Chain n N m P ls ∧ st = glue ls ∧ Ob wr b 4 (parC (.slice p1 n c1) (.slice p2 m c2) (ls.length : Nat) vW') ∧ RN B wr (.slice p1 n c1) n (nodC N) ∧ RP B wr (.slice p2 m c2) m (pipC P) ∧ Upd (fun x => x = b ∨ B ≤ x) w wr)
      clear hst hC O RNn RPp U hfb h00 hne hr0
      go_wp2_with fail
      go_end0
      obtain ⟨n, N, m, P, ls, p1, c1, p2, c2, vW', q1, q2, q3, q4, q5, q6, q7⟩ := HP.out
      exact .inr ⟨n, N, m, P, ls, p1, c1, p2, c2, vW', q1, q2, q3, rfl, q4, q5, q6, q7⟩
    · have hmx0 := (env_below HE.out (BW.out _ U)).maxlen
      obtain ⟨mx, hmx⟩ := hmx0
      have hcut := Tryz.strings_Cut rest ⟨#[10]⟩ mx wr (by omega) hmx
      have hl := O.lt
      have hlen : ls.length ≤ 1048576 := by
        have h1 : ls.length ≤ (glue ls).length := by
          clear hC HC hst HST hfb O
          induction ls with
          | nil => simp
          | cons x r ih => simp [glue] at ih ⊢; omega
        have h2 := congrArg List.length hst
        rw [List.length_append] at h2
        omega
      have hlI : ((ls.length : Nat) : Int) ≤ 1048576 := by omega
      have hgo' : fb = true ∨ rest.toList.isEmpty = false := by
        cases fb
        · right
          cases h : rest.toList.isEmpty
          · rfl
          · exact absurd ⟨rfl, h⟩ hgo
        · exact .inl rfl
      have bd := chain_bd hC
      have U' := Lib.hid U
      by_cases hmem : (10 : UInt8) ∈ rest.data.toList
      · obtain ⟨a, t, ha, hat⟩ := nl.cut_ex hmem
        rw [show (⟨#[10]⟩ : ByteArray).data.toList = [10] from rfl, hat, cut_yes ha] at hcut
        have HCUT := Lib.hid hcut
        have HAT := Lib.hid hat
        have HA := Lib.hid ha
        have hsz : a.length + t.length + 1 = rest.size := by
          have e : rest.data.toList.length = rest.size := Array.length_toList
          rw [hat] at e
          simp at e
          omega
        clear hcut hat ha hmem hst hC hfb U hgo
        rcases hgo' with rfl | hgo'
        all_goals go_wp2_with fail
        all_goals refine HCUT.out.mono ?_
        all_goals rintro e w2 ⟨rfl, kk, hw2⟩
        all_goals have b2 : Below wr.heap.size wr w2 := by subst hw2; exact ⟨rfl, rfl, rfl, Nat.le_refl _, fun _ _ => rfl⟩
        all_goals clear hw2
        all_goals have O2 := O.below b2 hl
        all_goals have N2 := RowE.next RNn b2
        all_goals have P2 := RowE.next RPp b2
        all_goals have U2 := Lib.hid (U'.out.trans (Upd.of_below b2))
        all_goals have hB2 : B ≤ w2.heap.size := Nat.le_trans (Nat.le_trans hBw hUs) b2.size
        all_goals clear O RNn RPp b2
        all_goals go_wp2_with fail
        all_goals refine (readLineG w0 w2 b B n m c1 c2 p1 p2 N P _ vW' ⟨a.toArray⟩ O2 N2 P2 h00 bd.1 bd.2.1 bd.2.2 hbB hB2 HE.out (BW.out _ U2.out) hb (by show a.toArray.size ≤ _; simp; omega)).mono ?_
        all_goals rintro e w3 (⟨rfl, U3, hno⟩ | ⟨ps, n', N', m', P', q1, k1, q2, k2, vW3, hps, hLO, hB, rfl, O3, N3, P3, h03, U3⟩)
        all_goals (first | (exact ⟨rfl, .inl ⟨rfl, U2.out.trans U3.upd, n, N, m, P, ls, _, HC.out, HST.out, U3.lines, .inr ⟨a, t, HA.out, HAT.out, fun ps e => hno ps e⟩⟩⟩) | skip)
        all_goals (
          have f2 := O3.free 2
          have g2 : w3.cell? ⟨b, 2, none⟩ = some (.int .i64 (ls.length : Nat)) := O3.cell 2 (by omega)
          have hO := (Only.refl b w3).setCell 2 (.int .i64 ((ls.length : Nat) + 1))
          have O4 := Lib.hid ((O3.set 2 (.int .i64 ((ls.length : Nat) + 1)) (by omega)).congr (e := parC (.slice q1 n' k1) (.slice q2 m' k2) ((ls ++ [a]).length : Nat) vW3) (fun j hj => by rcases (by omega : j = 0 ∨ j = 1 ∨ j = 2 ∨ j = 3) with rfl | rfl | rfl | rfl <;> first | rfl | (show Value.int .i64 ((ls.length : Nat) + 1) = Value.int .i64 (((ls ++ [a]).length : Nat) : Int); simp)))
          have N4 := Lib.hid (RowE.low N3 (Upd.of_only hO) hbB)
          have P4 := Lib.hid (RowE.low P3 (Upd.of_only hO) hbB)
          have U4 := Lib.hid ((U2.out.trans U3).trans (upd_or (Upd.of_only hO)))
          have HCH := Lib.hid (Chain.snoc (s := a) HC.out hps hLO hB)
          have H03 := Lib.hid h03
          clear hO O3 N3 P3 U3 hps hLO hB h03
          go_wp2_with fail
          go_roundw
          case rel => exact ⟨false, ⟨t.toArray⟩, rfl, rfl, ⟨⟨n', N', m', P', ls ++ [a], q1, k1, q2, k2, vW3, by simp, HCH.out, by rw [HST.out, HAT.out, glue_app]; simp [glue], O4.out, N4.out, P4.out, H03.out, U4.out⟩, by show t.toArray.size ≤ _; simp; omega⟩⟩
          case measure => show t.toArray.size < rest.size; simp; omega)
      · rw [show (⟨#[10]⟩ : ByteArray).data.toList = [10] from rfl, cut_no hmem] at hcut
        have HCUT := Lib.hid hcut
        have hNO := Lib.hid hmem
        have g2 := O.cell 2 (by omega)
        have hEM := Lib.hid (show ls = [] ∨ rest.data.toList ≠ [] from by
          rcases hgo' with h | h
          · left
            rw [h] at hfb
            simpa using hfb.symm
          · right
            intro e
            rw [← Go.ByteArray.toList_eq] at e
            rw [e] at h
            cases h)
        clear hcut hmem hst hC hfb U hgo
        rcases hgo' with rfl | hgo'
        all_goals go_wp2_with (first | (go_at_call 45; refine HCUT.out.mono ?_; rintro e w2 ⟨rfl, kk, rfl⟩) | (go_at_call 46; refine (fail_any _ _).mono ?_; rintro e w' ⟨rfl, rfl⟩))
        all_goals exact ⟨rfl, .inl ⟨rfl, U'.out.trans ⟨rfl, rfl, rfl, Nat.le_refl _, fun _ _ _ => rfl⟩, n, N, m, P, ls, _, HC.out, HST.out, g2, .inl ⟨hNO.out, hEM.out⟩⟩⟩
end Go.Proofs.YtbenloeomjdkcaaGreatDoor.text

namespace Go.Proofs.YtbenloeomjdkcaaGreatDoor.text
open Go.RowKit Go.Proofs.YtbenloeomjdkcaaGreatDoor.mem
set_option linter.unusedVariables false
set_option maxRecDepth 100000

theorem catch_panicking (p : Addr) (x : Bool) (u : TypeId) (pv : Value) (older : List PanicEntry) (w : World) (hc : w.cell? p = some (.bool x)) (hz : w.frozen? p = false) :
    CallsD Tryz.prog 44 #[.pointer (some p)] (.panicking ({ v := .iface u pv, recovered := false } :: older)) w fun e u' w' =>
      e = .returned (.tuple #[]) ∧ u' = .panicking ({ v := .iface u pv, recovered := true } :: older) ∧ w' = w.setCell p (.bool false) := by
  refine callsD_of_wpS Tryz.func44 rfl fun c₀ cs hu => ?_
  apply wpS_seq
  apply wpS_region
  simp [wpOpsS, go_sem, recoverD, hu, Tryz.ntmps44, Exit.thenS]
  refine wpS_cond (t := true) (by simp [Act.eval, Array.replicate]) ?_
  simp only [if_true]
  apply wpS_region
  simp [wpOpsS, go_sem, hc, hz, bodyPostS, results, Tryz.results44]
theorem catch_idle (p : Addr) (w : World) :
    CallsD Tryz.prog 44 #[.pointer (some p)] .returning w fun e u' w' => e = .returned (.tuple #[]) ∧ u' = .returning ∧ w' = w := by
  refine callsD_of_wpS Tryz.func44 rfl fun c₀ cs hu => ?_
  apply wpS_seq
  apply wpS_region
  simp [wpOpsS, go_sem, recoverD, hu, Tryz.ntmps44, Exit.thenS]
  refine wpS_cond (t := false) (by simp [Act.eval, Array.replicate]) ?_
  simp only [Bool.false_eq_true, if_false]
  refine wpS_of_wp (wp_skip ?_)
  cases c₀
  simp_all [bodyPostS, results, Tryz.results44]

def AccPost (w : World) (b : Nat) (s : ByteArray) (e : Ending) (w' : World) : Prop :=
  (e = .returned (.bool false) ∧ Upd (· = b) w w' ∧ ∀ q, nodB q = true → nodeL q ≠ s.data.toList) ∨
  ∃ q vN vW, nodB q = true ∧ nodeL q = s.data.toList ∧ e = .returned (.bool true) ∧ Ob w' b 4 (parC vN (.slice none 0 0) 0 vW) ∧ RN (w.heap.size + 1) w' vN 1 (nodC fun _ => q) ∧ Upd (· = b) w w'
set_option maxHeartbeats 4000000 in
theorem accepts_any (w0 w : World) (b : Nat) (vW : Value) (s : ByteArray) (h : Ob w b 4 (parC (.slice none 0 0) (.slice none 0 0) 0 vW)) (hE : Env w0) (h0 : Below w0.heap.size w0 w) (hb : w0.heap.size ≤ b) (hs : s.size ≤ 1048576) :
    Calls Tryz.prog 20 #[.pointer (some ⟨b, 0, none⟩), .func (Fn.func 47) #[.pointer (some ⟨b, 0, none⟩)] #[], .string s] w (AccPost w b s) := by
  have hmf : ∀ (fn : Fn) (first cap : Array Value) (w : World), (Instr.makeFunc fn first cap).run Tryz.prog w = .ok (.func fn first cap) w := fun _ _ _ _ => rfl
  go_enter_defers Tryz.func20, Tryz.ntmps20
  have A1 := Ob.new w #[.bool false] 4 1 (fun _ => .bool false) rfl (fun k hk => by
    obtain rfl : k = 0 := by omega
    rfl)
  have C1 := below_new w (.cells #[.bool false] 4)
  have hz : (w.alloc (.cells #[.bool false] 4)).heap.size = w.heap.size + 1 := by simp
  go_wp2_with fail
  generalize hW : w.alloc (Obj.cells #[.bool false] 4) = w1 at *
  clear hW
  replace hz := Nat.le_antisymm_iff.1 hz
  have hbl := h.lt
  have O1 := h.below C1 hbl
  have UW : ∀ X : World, Upd (fun x => x = b ∨ w.heap.size + 1 ≤ x) w1 X → Upd (· = b) w X := fun X u =>
    ⟨u.os.trans C1.os, u.tape.trans C1.tape, u.output.trans C1.output, Nat.le_trans C1.size u.size, fun k hk hx => (u.block k (by omega) (by rintro (e | e); exact hx e; omega)).trans (C1.block k hk)⟩
  have U3 : ∀ (X : World) (v : Value), Upd (fun x => x = b ∨ w.heap.size + 1 ≤ x) w1 X → Upd (· = b) w (X.setCell ⟨w.heap.size, 0, none⟩ v) := fun X v u => by
    have hO := (Only.refl w.heap.size X).setCell 0 v
    have a := UW X u
    exact ⟨hO.os.trans a.os, hO.tape.trans a.tape, hO.output.trans a.output, Nat.le_trans a.size (Nat.le_of_eq hO.size), fun k hk hx => (hO.block k (by omega)).trans (a.block k hk hx)⟩
  have HU3 := Lib.hid U3
  have C1H := Lib.hid C1
  clear UW U3
  refine (readLine_any w0 w1 b (w.heap.size + 1) vW s O1 (by omega) (by omega) hE (h0.trans (C1.mono h0.size)) hb hs).mono ?_
  rintro e w2 (⟨rfl, U2, hno⟩ | ⟨q, vN, vW2, hq, hl, rfl, O2, R2, U2⟩)
  · have A2 := A1.keep (U2.block w.heap.size A1.lt (by rintro (e | e) <;> omega))
    have c2 : w2.cell? ⟨w.heap.size, 0, none⟩ = some (.bool false) := A2.cell 0 (by omega)
    have f2 : w2.frozen? ⟨w.heap.size, 0, none⟩ = false := A2.free 0
    have g2 : (w2.setCell ⟨w.heap.size, 0, none⟩ (.bool false)).cell? ⟨w.heap.size, 0, none⟩ = some (.bool false) := (A2.set 0 (.bool false) (by omega)).cell 0 (by omega)
    have fin : AccPost w b s (.returned (.bool false)) (w2.setCell ⟨w.heap.size, 0, none⟩ (.bool false)) := .inl ⟨rfl, HU3.out w2 _ U2, hno⟩
    have FIN := Lib.hid fin
    clear fin
    refine leaves_cons (f := 44) (args := #[.pointer (some ⟨w.heap.size, 0, none⟩)]) (by simp) (by simp [go_sem]) ?_
    refine (catch_panicking ⟨w.heap.size, 0, none⟩ false _ _ [] _ c2 f2).mono ?_
    rintro e u' w'' ⟨rfl, rfl, rfl⟩
    simp [Leaves, settle, results, Tryz.results20, go_sem, g2]
    exact FIN.out
  · have A2 := A1.keep (U2.block w.heap.size A1.lt (by rintro (e | e) <;> omega))
    have c2 : w2.cell? ⟨w.heap.size, 0, none⟩ = some (.bool false) := A2.cell 0 (by omega)
    have f2 : w2.frozen? ⟨w.heap.size, 0, none⟩ = false := A2.free 0
    have g2 : (w2.setCell ⟨w.heap.size, 0, none⟩ (.bool true)).cell? ⟨w.heap.size, 0, none⟩ = some (.bool true) := (A2.set 0 (.bool true) (by omega)).cell 0 (by omega)
    have hO := (Only.refl w.heap.size w2).setCell 0 (.bool true)
    have fin : AccPost w b s (.returned (.bool true)) (w2.setCell ⟨w.heap.size, 0, none⟩ (.bool true)) := .inr ⟨q, vN, vW2, hq, hl, rfl, O2.keep (hO.block b (by omega)), R2.low (Upd.of_only hO) (by omega), HU3.out w2 _ U2⟩
    have FIN := Lib.hid fin
    clear fin O2 R2 U2 A2 hO
    go_wp2_with fail
    refine leaves_cons (f := 44) (args := #[.pointer (some ⟨w.heap.size, 0, none⟩)]) (by simp) (by simp [go_sem]) ?_
    refine (catch_idle ⟨w.heap.size, 0, none⟩ _).mono ?_
    rintro e u' w'' ⟨rfl, rfl, rfl⟩
    simp [Leaves, settle, results, Tryz.results20, go_sem, g2]
    exact FIN.out
end Go.Proofs.YtbenloeomjdkcaaGreatDoor.text

namespace Go.Proofs.YtbenloeomjdkcaaGreatDoor.text
open Go.RowKit Go.Proofs.YtbenloeomjdkcaaGreatDoor.mem
set_option linter.unusedVariables false
set_option maxRecDepth 100000

def AccT (w : World) (b : Nat) (s : ByteArray) (e : Ending) (w' : World) : Prop :=
  (e = .returned (.bool false) ∧ Upd (· = b) w w' ∧ ∃ n N m P ls rest, Chain n N m P ls ∧ s.data.toList = glue ls ++ rest ∧ w'.cell? ⟨b, 2, none⟩ = some (.int .i64 (ls.length : Nat)) ∧ NoStep n N m P ls rest) ∨
  ∃ n N m P ls p1 c1 p2 c2 vW', ls ≠ [] ∧ Chain n N m P ls ∧ s.data.toList = glue ls ∧ e = .returned (.bool true) ∧ Ob w' b 4 (parC (.slice p1 n c1) (.slice p2 m c2) (ls.length : Nat) vW') ∧ RN (w.heap.size + 1) w' (.slice p1 n c1) n (nodC N) ∧ RP (w.heap.size + 1) w' (.slice p2 m c2) m (pipC P) ∧ Upd (· = b) w w'
set_option maxHeartbeats 4000000 in
theorem acceptsText_any (w0 w : World) (b : Nat) (vW : Value) (s : ByteArray) (h : Ob w b 4 (parC (.slice none 0 0) (.slice none 0 0) 0 vW)) (hE : Env w0) (h0 : Below w0.heap.size w0 w) (hb : w0.heap.size ≤ b) (hs : s.size ≤ 1048576) :
    Calls Tryz.prog 20 #[.pointer (some ⟨b, 0, none⟩), .func (Fn.func 21) #[.pointer (some ⟨b, 0, none⟩)] #[], .string s] w (AccT w b s) := by
  have hmf : ∀ (fn : Fn) (first cap : Array Value) (w : World), (Instr.makeFunc fn first cap).run Tryz.prog w = .ok (.func fn first cap) w := fun _ _ _ _ => rfl
  go_enter_defers Tryz.func20, Tryz.ntmps20
  have A1 := Ob.new w #[.bool false] 4 1 (fun _ => .bool false) rfl (fun k hk => by
    obtain rfl : k = 0 := by omega
    rfl)
  have C1 := below_new w (.cells #[.bool false] 4)
  have hz : (w.alloc (.cells #[.bool false] 4)).heap.size = w.heap.size + 1 := by simp
  go_wp2_with fail
  generalize hW : w.alloc (Obj.cells #[.bool false] 4) = w1 at *
  clear hW
  replace hz := Nat.le_antisymm_iff.1 hz
  have hbl := h.lt
  have O1 := h.below C1 hbl
  have UW : ∀ X : World, Upd (fun x => x = b ∨ w.heap.size + 1 ≤ x) w1 X → Upd (· = b) w X := fun X u =>
    ⟨u.os.trans C1.os, u.tape.trans C1.tape, u.output.trans C1.output, Nat.le_trans C1.size u.size, fun k hk hx => (u.block k (by omega) (by rintro (e | e); exact hx e; omega)).trans (C1.block k hk)⟩
  have U3 : ∀ (X : World) (v : Value), Upd (fun x => x = b ∨ w.heap.size + 1 ≤ x) w1 X → Upd (· = b) w (X.setCell ⟨w.heap.size, 0, none⟩ v) := fun X v u => by
    have hO := (Only.refl w.heap.size X).setCell 0 v
    have a := UW X u
    exact ⟨hO.os.trans a.os, hO.tape.trans a.tape, hO.output.trans a.output, Nat.le_trans a.size (Nat.le_of_eq hO.size), fun k hk hx => (hO.block k (by omega)).trans (a.block k hk hx)⟩
  have HU3 := Lib.hid U3
  have C1H := Lib.hid C1
  clear UW U3
  refine (readText_any w0 w1 b (w.heap.size + 1) vW s O1 (by omega) (by omega) hE (h0.trans (C1.mono h0.size)) hb hs).mono ?_
  rintro e w2 (⟨rfl, U2, n, N, m, P, ls, rest, d1, d2, d3, d4⟩ | ⟨n, N, m, P, ls, p1, c1, p2, c2', vW2, d0, d1, d2, rfl, O2, R2, R3, U2⟩)
  · have A2 := A1.keep (U2.block w.heap.size A1.lt (by rintro (e | e) <;> omega))
    have c2 : w2.cell? ⟨w.heap.size, 0, none⟩ = some (.bool false) := A2.cell 0 (by omega)
    have f2 : w2.frozen? ⟨w.heap.size, 0, none⟩ = false := A2.free 0
    have g2 : (w2.setCell ⟨w.heap.size, 0, none⟩ (.bool false)).cell? ⟨w.heap.size, 0, none⟩ = some (.bool false) := (A2.set 0 (.bool false) (by omega)).cell 0 (by omega)
    have fin : AccT w b s (.returned (.bool false)) (w2.setCell ⟨w.heap.size, 0, none⟩ (.bool false)) := .inl ⟨rfl, HU3.out w2 _ U2, n, N, m, P, ls, rest, d1, d2, (((Only.refl w.heap.size w2).setCell 0 (.bool false)).cell (a := ⟨b, 2, none⟩) (by show b ≠ w.heap.size; omega)).trans d3, d4⟩
    have FIN := Lib.hid fin
    clear fin
    refine leaves_cons (f := 44) (args := #[.pointer (some ⟨w.heap.size, 0, none⟩)]) (by simp) (by simp [go_sem]) ?_
    refine (catch_panicking ⟨w.heap.size, 0, none⟩ false _ _ [] _ c2 f2).mono ?_
    rintro e u' w'' ⟨rfl, rfl, rfl⟩
    simp [Leaves, settle, results, Tryz.results20, go_sem, g2]
    exact FIN.out
  · have A2 := A1.keep (U2.block w.heap.size A1.lt (by rintro (e | e) <;> omega))
    have c2 : w2.cell? ⟨w.heap.size, 0, none⟩ = some (.bool false) := A2.cell 0 (by omega)
    have f2 : w2.frozen? ⟨w.heap.size, 0, none⟩ = false := A2.free 0
    have g2 : (w2.setCell ⟨w.heap.size, 0, none⟩ (.bool true)).cell? ⟨w.heap.size, 0, none⟩ = some (.bool true) := (A2.set 0 (.bool true) (by omega)).cell 0 (by omega)
    have hO := (Only.refl w.heap.size w2).setCell 0 (.bool true)
    have fin : AccT w b s (.returned (.bool true)) (w2.setCell ⟨w.heap.size, 0, none⟩ (.bool true)) := .inr ⟨n, N, m, P, ls, p1, c1, p2, c2', vW2, d0, d1, d2, rfl, O2.keep (hO.block b (by omega)), R2.low (Upd.of_only hO) (by omega), R3.low (Upd.of_only hO) (by omega), HU3.out w2 _ U2⟩
    have FIN := Lib.hid fin
    clear fin O2 R2 R3 U2 A2 hO
    go_wp2_with fail
    refine leaves_cons (f := 44) (args := #[.pointer (some ⟨w.heap.size, 0, none⟩)]) (by simp) (by simp [go_sem]) ?_
    refine (catch_idle ⟨w.heap.size, 0, none⟩ _).mono ?_
    rintro e u' w'' ⟨rfl, rfl, rfl⟩
    simp [Leaves, settle, results, Tryz.results20, go_sem, g2]
    exact FIN.out
end Go.Proofs.YtbenloeomjdkcaaGreatDoor.text

namespace Go.Proofs.YtbenloeomjdkcaaGreatDoor.text
open Go.RowKit Go.Proofs.YtbenloeomjdkcaaGreatDoor.mem
set_option linter.unusedVariables false

def ixV (N : Nat → Nod) (n : Nat) (s : ByteArray) : Int := match nnF N n s with
  | some k => (k : Int)
  | none => -1
set_option maxHeartbeats 2000000 in
theorem l03Index_any (w : World) (v : Value) (n : Nat) (N : Nat → Nod) (lo hi : Nat) (h : Cs w v n 3 (nodC N) lo hi) (hn : n ≤ 9223372036854775807) (s : ByteArray) :
    Calls Tryz.prog 43 #[v, .string s] w fun e w' => e = .returned (.int .i64 (ixV N n s)) ∧ Below w.heap.size w w' := by
  obtain ⟨p0, c0, rfl⟩ := h.shape
  have HC0 : Hid (n = 0 ∨ ∃ b o, p0 = some ⟨b, o, none⟩ ∧ lo ≤ b ∧ b < hi ∧ At w b o n 3 (nodC N)) := by
    obtain ⟨p, cap, hv, _, _, hc⟩ := h.ex
    injection hv with e1 _ e2
    subst e1
    exact Lib.hid hc
  clear h
  have HI := Lib.hid (show ixV N n s = match nnF N n s with | some k => (k : Int) | none => -1 from rfl)
  go_enter Tryz.func43, Tryz.ntmps43
  go_wp2_with fail
  go_loop [5] (fun i => ∃ k : Nat, i = .int .i64 k ∧ k ≤ n ∧ ∀ x, x < k → nnP N s x = false) (fun i => n - (intOf i).toNat)
  case atStart => exact ⟨0, rfl, Nat.zero_le _, fun x hx => by omega⟩
  case round =>
    obtain ⟨k, rfl, hk, hall⟩ := hrel
    have HA := Lib.hid hall
    clear hall
    by_cases hlt : k < n
    · rcases HC0.out with h0 | ⟨b, o, rfl, hlo, hb, g3⟩
      · omega
      have c3 : w.cell? ⟨b, o + k * 3, none⟩ = some (.string (N k).s) := g3.cell k 0 hlt (by omega)
      clear g3
      cases hp : nnP N s k
      · have hp2 : ((N k).s.toList == s.toList) = false := hp
        have HPK := Lib.hid hp
        clear hp
        go_wp2_with fail
        go_round
        case rel =>
          refine ⟨k + 1, by go_num, hlt, fun x hx => ?_⟩
          by_cases e : x = k
          · subst e; exact HPK.out
          · exact HA.out x (by omega)
        case measure => simp [intOf]; omega
      · have hp2 : ((N k).s.toList == s.toList) = true := hp
        have HF := Lib.hid (nnF_some hlt hp HA.out)
        have h2 := Lib.hid (show ixV N n s = k by rw [HI.out, HF.out])
        clear hp
        go_wp2_with fail
        go_ret
        exact ⟨by rw [h2.out]; rfl, Below.refl _ _⟩
    · obtain rfl : k = n := by omega
      have HF := Lib.hid (nnF_none HA.out)
      have h2 := Lib.hid (show ixV N k s = -1 by rw [HI.out, HF.out])
      go_wp2_with fail
      go_ret
      exact ⟨by rw [h2.out]; rfl, Below.refl _ _⟩
end Go.Proofs.YtbenloeomjdkcaaGreatDoor.text

namespace Go.Proofs.YtbenloeomjdkcaaGreatDoor.mem
open Go.RowKit
set_option linter.unusedVariables false
/-- one element is appended, to as many as two million -/
theorem appOne2 {t e : TypeId} {zv : Value} {z bytes : Nat} (ht : Tryz.prog.underlying t = some (.slice e)) (hinf : (Tryz.prog.info? e).map (fun i => (i.zero, i.size, i.bytes)) = some (some zv, z, bytes)) (hb64 : bytes ≤ 64) (hzs : zv.cells.size = z) (hz : 0 < z)
    (B : Nat) (W : World) (v : Value) (n : Nat) (c c' : Nat → Nat → Value) (h : RowE B e z W v n c) (hB : B ≤ W.heap.size) (l : List Value) (hl : l.length = z) (h1 : ∀ u ∈ l, u.oneCell' = true) (hc : ∀ i j, i < n → j < z → c' i j = c i j) (hn : ∀ j, j < z → l[j]? = some (c' n j)) (hn2 : n ≤ 2000000) :
    ∃ v' w', Sem.run Tryz.prog (Builtin.append_ #[t, t] t #[v, .slice (some ⟨W.heap.size, 0, none⟩) 1 1]) (W.alloc (.cells l.toArray e)) = .ok v' w' ∧ RowE B e z w' v' (n + 1) c' ∧ Upd (fun x => some x = v.ownBlock) W w' := by
  obtain ⟨i0, hi0, hz0, hz1, hz2⟩ := info_parts hinf
  have hA := h.next (below_new W (.cells l.toArray e))
  have hnew := heap_alloc_new W (.cells l.toArray e)
  obtain ⟨v', w', hr, ho, hgr, _⟩ := run_append_own (P := Tryz.prog) (W.alloc (.cells l.toArray e)) B t t e i0 zv z bytes ht hi0 hz0 hz1 hz2 hzs hz v n (flatL c n z) hA.own ⟨W.heap.size, 0, none⟩ 1 1 l (by omega) (fun j u hu => by
      have hadd : (⟨W.heap.size, 0, none⟩ : Addr).add j = ⟨W.heap.size, j, none⟩ := by unfold Addr.add; split <;> simp_all
      rw [hadd]
      simp only [World.cell?, hnew]
      simpa using hu) h1 (by unfold maxLen; omega) (by have : (n + 1) * bytes ≤ 2000001 * 64 := Nat.mul_le_mul (by omega) hb64; omega) (Nat.le_trans hB (by simp))
  refine ⟨v', w', hr, ⟨by rw [flatL_snoc hl hc hn]; exact ho⟩, ?_⟩
  have u0 : Upd (fun x => some x = v.ownBlock) W (W.alloc (.cells l.toArray e)) := Upd.of_below (below_new _ _)
  exact u0.trans ⟨hgr.os, hgr.tape, hgr.output, hgr.size, fun k hk hx => hgr.block k hk (fun e => hx e)⟩
end Go.Proofs.YtbenloeomjdkcaaGreatDoor.mem
namespace Go.Proofs.YtbenloeomjdkcaaGreatDoor.text
open Go.RowKit Go.Proofs.YtbenloeomjdkcaaGreatDoor.mem
set_option linter.unusedVariables false
set_option maxRecDepth 100000

theorem words_app2 (B : Nat) (w : World) (v : Value) (ws : List ByteArray) (s : ByteArray) (h : Words B w v ws) (hB : B ≤ w.heap.size) (hn : ws.length ≤ 2000000) :
    ∃ v' w', Sem.run Tryz.prog (Builtin.append_ #[38, 38] 38 #[v, .slice (some ⟨w.heap.size, 0, none⟩) 1 1]) (w.alloc (.cells #[.string s] 9)) = .ok v' w' ∧ Words B w' v' (ws ++ [s]) ∧ Upd (fun x => some x = v.ownBlock) w w' := by
  obtain ⟨v', w', h1, h2, h3⟩ := appOne2 (zv := .string ⟨#[]⟩) (z := 1) (bytes := 16) Tryz.underlying38 (by kernel_rfl) (by omega) rfl (by omega) B w v ws.length (strC ws) (strC (ws ++ [s])) h hB [.string s] rfl (by intro u hu; simp at hu; subst hu; rfl)
    (fun i j hi _ => by unfold strC; rw [List.getElem?_append_left hi])
    (fun j hj => by
      obtain rfl : j = 0 := by omega
      unfold strC
      simp) (by omega)
  exact ⟨v', w', h1, by unfold Words; rw [List.length_append]; exact h2, h3⟩
theorem words_low {B : Nat} {w w' : World} {v : Value} {ws : List ByteArray} (h : Words B w v ws) (b : Below w.heap.size w w') : Words B w' v ws := RowE.next h b
theorem extract_mid (s : ByteArray) (f k : Nat) (hk : k ≤ s.size) : (s.extract f k).data.toList = (s.data.toList.drop f).take (k - f) := by
  simp [ByteArray.data_extract]
theorem no_blank {L : List UInt8} {f k : Nat} (h : ∀ j, f ≤ j → j < k → L[j]? ≠ some 32) : (32 : UInt8) ∉ (L.drop f).take (k - f) := by
  intro hm
  obtain ⟨i, hi⟩ := List.mem_iff_getElem?.1 hm
  have hlt : i < k - f := by
    have := (List.getElem?_eq_some_iff.1 hi).1
    simp only [List.length_take] at this
    omega
  rw [List.getElem?_take, if_pos hlt, List.getElem?_drop] at hi
  exact h (f + i) (by omega) (by omega) hi
theorem drop_cut {L : List UInt8} {f k : Nat} (hf : f ≤ k) (h : L[k]? = some 32) : L.drop f = (L.drop f).take (k - f) ++ 32 :: L.drop (k + 1) := by
  have hk := (List.getElem?_eq_some_iff.1 h).1
  have e : (L.drop f).drop (k - f) = 32 :: L.drop (k + 1) := by
    rw [List.drop_drop, show f + (k - f) = k by omega, List.drop_eq_getElem_cons hk]
    congr 1
    exact (List.getElem?_eq_some_iff.1 h).2
  rw [← e, List.take_append_drop]
theorem split_step {L : List UInt8} {f k : Nat} (hf : f ≤ k) (h : L[k]? = some 32) (hn : ∀ j, f ≤ j → j < k → L[j]? ≠ some 32) : sp L.length (L.drop f) = (L.drop f).take (k - f) :: sp L.length (L.drop (k + 1)) := by
  have hk := (List.getElem?_eq_some_iff.1 h).1
  obtain ⟨m, hm⟩ : ∃ m, L.length = m + 1 := ⟨L.length - 1, by omega⟩
  rw [hm, drop_cut hf h, sp_one (no_blank hn)]
  congr 1
  · rw [← drop_cut hf h]
  · exact sp_big _ _ _ (by simp; omega) (by simp; omega)
theorem split_last {L : List UInt8} {f : Nat} (hn : ∀ j, f ≤ j → j < L.length → L[j]? ≠ some 32) : sp L.length (L.drop f) = [(L.drop f).take (L.length - f)] := by
  have e : (L.drop f).take (L.length - f) = L.drop f := List.take_of_length_le (by simp)
  have := no_blank hn
  rw [e] at this ⊢
  exact sp_end this
/-- how far the splitting has come -/
structure Split (L : List UInt8) (k f : Nat) (bs : List ByteArray) : Prop where
  ex : (k ≤ L.length ∧ f ≤ k ∧ bs.length ≤ k ∧ sp L.length L = bs.map (·.data.toList) ++ sp L.length (L.drop f) ∧ ∀ j, f ≤ j → j < k → L[j]? ≠ some 32) ∨ (k = L.length + 1 ∧ sp L.length L = bs.map (·.data.toList))

set_option maxHeartbeats 2000000 in
theorem split_any (w : World) (s : ByteArray) (hs : s.size ≤ 1048576) :
    Calls Tryz.prog 40 #[.string s, .int .u8 32] w fun e w' => ∃ v bs, e = .returned v ∧ Words w.heap.size w' v bs ∧ bs.map (·.data.toList) = sp s.data.toList.length s.data.toList ∧ Below w.heap.size w w' := by
  have hL : s.data.toList.length = s.size := Array.length_toList
  have HL := Lib.hid hL
  have W0 : Words w.heap.size (w.alloc (.cells #[] 9)) (.slice (some ⟨w.heap.size, 0, none⟩) 0 0) [] := words_new w [] (by simp)
  have C0 := below_new w (.cells #[] 9)
  clear hL
  go_enter Tryz.func40, Tryz.ntmps40
  go_wp2_with fail
  go_loopw [7, 5, 6] (fun i out fr wr => ∃ (k f : Nat) (out' : Value) (bs : List ByteArray), i = .int .i64 k ∧ fr = .int .i64 f ∧ out' = out ∧ Words w.heap.size wr out' bs ∧ Split s.data.toList k f bs ∧ Below w.heap.size w wr) (fun i _ _ _ => s.size + 1 - (intOf i).toNat)
  case atStart => exact ⟨0, 0, _, [], rfl, rfl, rfl, W0, ⟨.inl ⟨Nat.zero_le _, Nat.le_refl _, Nat.le_refl _, by simp, fun j h1 h2 => by omega⟩⟩, C0⟩
  case round =>
    obtain ⟨k, f, out, bs, rfl, rfl, rfl, hW, hS, hB⟩ := hrel
    obtain ⟨po, co, rfl⟩ := RowE.shape hW
    have HW := Lib.hid hW
    have HB := Lib.hid hB
    have hsz : w.heap.size ≤ wr.heap.size := hB.size
    rcases hS.ex with ⟨h1, h2, h3, h4, h5⟩ | ⟨h1, h4⟩
    · rw [HL.out] at h1
      have H4 := Lib.hid h4
      have H5 := Lib.hid h5
      clear hW hB hS h4 h5
      have app : ∀ (W1 : ∃ L', s.extract f k = L'), ∃ v' w', Sem.run Tryz.prog (Builtin.append_ #[38, 38] 38 #[.slice po bs.length co, .slice (some ⟨wr.heap.size, 0, none⟩) 1 1]) (wr.alloc (.cells #[.string (s.extract f k)] 9)) = .ok v' w' ∧ Words w.heap.size w' v' (bs ++ [s.extract f k]) ∧ Below w.heap.size w w' := fun _ => by
        obtain ⟨v', w', hr, hw', hu⟩ := words_app2 w.heap.size wr _ bs (s.extract f k) HW.out hsz (by omega)
        exact ⟨v', w', hr, hw', HB.out.trans (hu.below hsz (fun x _ e => (HW.out.own.lt x e.symm).1))⟩
      obtain ⟨v5, w5, hr, hw5, hb5⟩ := app ⟨_, rfl⟩
      have HW5 := Lib.hid hw5
      have HB5 := Lib.hid hb5
      clear app hw5 hb5
      have hfk : (f : Int) ≤ k := by omega
      have hks : (k : Int) ≤ s.size := by omega
      by_cases hlt : k < s.size
      · have hg : s.data.toList[k]? = some s[k] := by simp [ByteArray.getElem_eq_getElem_data]
        have HG := Lib.hid hg
        have hki : (k : Int) < s.size := by omega
        have hne : ((k : Int) == s.size) = false := by simp; omega
        clear hg
        by_cases hc : (s[k].toNat : Int) = 32
        · have h32 : s[k] = 32 := by
            apply UInt8.toNat_inj.1
            have : (32 : UInt8).toNat = 32 := rfl
            omega
          have st := split_step h2 (HG.out.trans (by rw [h32])) H5.out
          have HST := Lib.hid st
          clear st h32
          go_wp2_with (at_builtin; refine mem.wpList_appT hr rfl _ _ rfl rfl rfl rfl ?_)
          go_roundw
          case rel => exact ⟨k + 1, k + 1, v5, _, by go_num, by go_num, rfl, HW5.out, ⟨.inl ⟨by rw [HL.out]; omega, Nat.le_refl _, by simp; omega, by rw [H4.out, HST.out, List.map_append, List.map_cons, List.map_nil, extract_mid s f k (by omega), List.append_assoc]; rfl, fun j h1 h2 => by omega⟩⟩, HB5.out⟩
          case measure => simp [intOf]; omega
        · have hc' : ((s[k].toNat : Int) == 32) = false := by simpa using hc
          have hn32 : Hid (s.data.toList[k]? ≠ some 32) := Lib.hid (fun e => by
            rw [HG.out] at e
            injection e with e
            rw [e] at hc
            exact hc rfl)
          clear hc hr
          go_wp2_with fail
          go_roundw
          case rel => exact ⟨k + 1, f, _, bs, by go_num, rfl, rfl, HW.out, ⟨.inl ⟨by rw [HL.out]; omega, by omega, by omega, H4.out, fun j g1 g2 => by
            rcases (by omega : j < k ∨ j = k) with g | g
            · exact H5.out j g1 g
            · rw [g]; exact hn32.out⟩⟩, HB.out⟩
          case measure => simp [intOf]; omega
      · obtain rfl : k = s.size := by omega
        have st := split_last (L := s.data.toList) (f := f) (by rw [HL.out]; exact H5.out)
        have HST := Lib.hid st
        clear st
        go_wp2_with (at_builtin; refine mem.wpList_appT hr rfl _ _ rfl rfl rfl rfl ?_)
        go_roundw
        case rel => exact ⟨s.size + 1, s.size + 1, v5, _, by go_num, by go_num, rfl, HW5.out, ⟨.inr ⟨by rw [HL.out], by rw [H4.out, HST.out, List.map_append, List.map_cons, List.map_nil, extract_mid s f s.size (Nat.le_refl _), HL.out]⟩⟩, HB5.out⟩
        case measure => simp [intOf] <;> omega
    · rw [HL.out] at h1
      subst h1
      have H4 := Lib.hid h4
      clear hW hB hS h4
      go_wp2_with fail
      go_ret
      exact ⟨_, bs, rfl, HW.out, H4.out.symm, HB.out⟩
end Go.Proofs.YtbenloeomjdkcaaGreatDoor.text

namespace Go.Proofs.YtbenloeomjdkcaaGreatDoor.text
open Go.RowKit
set_option linter.unusedVariables false

def ValPost (w : World) (l : List UInt8) (e : Ending) (w' : World) : Prop :=
  ∃ (v : Nat) (b : Bool), e = .returned (.tuple #[.int .i64 v, .bool b]) ∧ v < 1000000000000000000 ∧ (b = true → Lib.decDigits v = l) ∧ (b = false → ∀ m, m < 1000000000000000000 → Lib.decDigits m ≠ l) ∧ Below w.heap.size w w'

theorem take_snoc (s : ByteArray) (k : Nat) (h : k < s.size) : s.data.toList.take (k + 1) = s.data.toList.take k ++ [s[k]] := by
  rw [List.take_succ_eq_append_getElem (by simpa using h)]; rfl
theorem val_lt : ∀ (l : List UInt8), (∀ c ∈ l, isDig c = true) → ∀ acc, val acc l + 1 ≤ (acc + 1) * 10 ^ l.length
  | [], _, acc => by simp [val]
  | c :: l, h, acc => by
    have hc := isDig_iff.1 (h c (List.mem_cons_self ..))
    have ih := val_lt l (fun x hx => h x (List.mem_cons_of_mem _ hx)) (10 * acc + (c.toNat - 48))
    show val (10 * acc + (c.toNat - 48)) l + 1 ≤ _
    rw [List.length_cons, Nat.pow_succ]
    have h1 : (10 * acc + (c.toNat - 48) + 1) * 10 ^ l.length ≤ ((acc + 1) * 10) * 10 ^ l.length := Nat.mul_le_mul_right _ (by omega)
    have h2 : (acc + 1) * 10 * 10 ^ l.length = (acc + 1) * (10 ^ l.length * 10) := by rw [Nat.mul_assoc, Nat.mul_comm 10]
    omega
theorem val_bound {l : List UInt8} (h : ∀ c ∈ l, isDig c = true) (hl : l.length ≤ 18) : val 0 l < 1000000000000000000 := by
  have h1 := val_lt l h 0
  have h2 : 10 ^ l.length ≤ 10 ^ 18 := Nat.pow_le_pow_right (by omega) hl
  omega
theorem val_bound17 {l : List UInt8} (h : ∀ c ∈ l, isDig c = true) (hl : l.length ≤ 17) : val 0 l < 100000000000000000 := by
  have h1 := val_lt l h 0
  have h2 : 10 ^ l.length ≤ 10 ^ 17 := Nat.pow_le_pow_right (by omega) hl
  omega
theorem dec_len18 {m : Nat} (h : m < 1000000000000000000) : 1 ≤ (Lib.decDigits m).length ∧ (Lib.decDigits m).length ≤ 18 :=
  ⟨dec_pos m, by rw [Lib.decDigits_length]; exact nDigits_le 17 m (by omega)⟩
theorem dig_snoc {l : List UInt8} {c : UInt8} (h : ∀ x ∈ l, isDig x = true) (hc : 48 ≤ c.toNat ∧ c.toNat ≤ 57) : ∀ x ∈ l ++ [c], isDig x = true := by
  intro x hx
  rcases List.mem_append.1 hx with h1 | h1
  · exact h x h1
  · obtain rfl : x = c := by simpa using h1
    exact isDig_iff.2 hc

set_option maxHeartbeats 1000000 in
theorem value_any (s : ByteArray) (w : World) (hs : s.size ≤ 9223372036854775807) :
    Calls Tryz.prog 61 #[.string s] w (ValPost w s.data.toList) := by
  have hsz : s.data.toList.length = s.size := by rw [Array.length_toList]; rfl
  have HZ := Lib.hid hsz
  clear hsz
  by_cases h1 : (s.size : Int) < 1
  · go_enter Tryz.func61, Tryz.ntmps61
    go_wp2_with fail
    go_ret2
    refine ⟨0, false, rfl, by omega, by simp, fun _ m hm e => ?_, Below.refl _ _⟩
    have := dec_len18 hm
    rw [e, HZ.out] at this
    omega
  by_cases h2 : 18 < (s.size : Int)
  · go_enter Tryz.func61, Tryz.ntmps61
    go_wp2_with fail
    go_ret2
    refine ⟨0, false, rfl, by omega, by simp, fun _ m hm e => ?_, Below.refl _ _⟩
    have := dec_len18 hm
    rw [e, HZ.out] at this
    omega
  go_enter Tryz.func61, Tryz.ntmps61
  go_wp2_with fail
  go_loop [4, 5] (fun n i => ∃ k : Nat, k ≤ s.size ∧ i = .int .i64 k ∧ n = .int .i64 (val 0 (s.data.toList.take k)) ∧ ∀ c ∈ s.data.toList.take k, isDig c = true) (fun _ i => s.size - (intOf i).toNat)
  case atStart => exact ⟨0, Nat.zero_le _, rfl, rfl, by simp⟩
  case round =>
    obtain ⟨k, hk, rfl, rfl, hd⟩ := hrel
    have HD := Lib.hid hd
    have hlen : (s.data.toList.take k).length = k := by rw [List.length_take, HZ.out]; omega
    have HL := Lib.hid hlen
    clear hd hlen
    by_cases hlt : k < s.size
    · have hts := take_snoc s k hlt
      have HT := Lib.hid hts
      clear hts
      have hv := val_bound17 HD.out (by rw [HL.out]; omega)
      by_cases g1 : (s[k].toNat : Int) < 48
      · go_wp2_with fail
        go_ret2
        refine ⟨0, false, rfl, by omega, by simp, fun _ m hm e => ?_, Below.refl _ _⟩
        have := isDig_iff.1 (dec_dig m s[k] (by rw [e]; simp [ByteArray.getElem_eq_getElem_data]))
        omega
      · by_cases g2 : 57 < (s[k].toNat : Int)
        · go_wp2_with fail
          go_ret2
          refine ⟨0, false, rfl, by omega, by simp, fun _ m hm e => ?_, Below.refl _ _⟩
          have := isDig_iff.1 (dec_dig m s[k] (by rw [e]; simp [ByteArray.getElem_eq_getElem_data]))
          omega
        · go_wp2_with fail
          go_round
          case rel => exact ⟨k + 1, by omega, by go_num, by rw [HT.out, val_append, val_one]; congr 1; omega, by rw [HT.out]; exact dig_snoc HD.out ⟨by omega, by omega⟩⟩
          case measure => simp [intOf]; omega
    · have hv := val_bound HD.out (by rw [HL.out]; omega)
      have hk2 : s.data.toList.take k = s.data.toList := List.take_of_length_le (by rw [HZ.out]; omega)
      have HK := Lib.hid hk2
      clear hk2
      by_cases he : Lib.decDigits (val 0 (s.data.toList.take k)) = s.data.toList
      · have HE := Lib.hid he
        have he2 : (Lib.decDigits (val 0 (s.data.toList.take k)) == s.toList) = true := by rw [beq_iff_eq, Go.ByteArray.toList_eq]; exact he
        clear he
        go_wp2_with (go_at_call 78; refine (decI _ (val 0 (s.data.toList.take k)) _ rfl (by omega)).mono ?_; rintro e w1 ⟨rfl, hb1⟩; have HB := Lib.hid hb1; clear hb1)
        go_ret2
        exact ⟨_, true, rfl, hv, fun _ => HE.out, by simp, HB.out⟩
      · have HE := Lib.hid he
        have he2 : (Lib.decDigits (val 0 (s.data.toList.take k)) == s.toList) = false := by rw [beq_eq_false_iff_ne, Go.ByteArray.toList_eq]; exact he
        clear he
        go_wp2_with (go_at_call 78; refine (decI _ (val 0 (s.data.toList.take k)) _ rfl (by omega)).mono ?_; rintro e w1 ⟨rfl, hb1⟩; have HB := Lib.hid hb1; clear hb1)
        go_ret2
        refine ⟨_, false, rfl, hv, by simp, fun _ m hm e => HE.out ?_, HB.out⟩
        rw [HK.out, ← e, dec_val]
end Go.Proofs.YtbenloeomjdkcaaGreatDoor.text

namespace Go.Proofs.YtbenloeomjdkcaaGreatDoor.text
open Go.RowKit Go.Proofs.YtbenloeomjdkcaaGreatDoor.mem
set_option linter.unusedVariables false
set_option maxRecDepth 100000

structure Wd (w : World) (v : Value) (ws : List ByteArray) : Prop where
  ex : ∃ p cap, v = .slice p ws.length cap ∧ (ws = [] ∨ ∃ bw o, p = some ⟨bw, o, none⟩ ∧ bw < w.heap.size ∧ ∀ (i : Nat) x, ws[i]? = some x → w.cell? ⟨bw, o + i, none⟩ = some (.string x))
/-- word j is the decimal text of d j -/
def IsDec (d : Nat → Int) (j : Nat) (x : ByteArray) : Prop := ∃ m : Nat, d j = m ∧ m < 1000000000000000000 ∧ Lib.decDigits m = x.data.toList
def NsPost (w : World) (ws : List ByteArray) (e : Ending) (w' : World) : Prop :=
  ((e = .returned (.tuple #[.slice none 0 0, .bool false]) ∧ ∃ (j : Nat) (x : ByteArray), ws[j]? = some x ∧ ∀ m, m < 1000000000000000000 → Lib.decDigits m ≠ x.data.toList) ∨
   ∃ v g d, e = .returned (.tuple #[v, .bool true]) ∧ Own w' v ws.length d g ∧ w.heap.size ≤ g ∧ ∀ (j : Nat) x, ws[j]? = some x → IsDec d j x) ∧ Below w.heap.size w w'
theorem cell_i1 (w : World) (x : Int) : (w.alloc (.cells #[.int .i64 x] 2)).cell? ⟨w.heap.size, 0, none⟩ = some (.int .i64 x) := by
  have := heap_alloc_new w (Obj.cells #[.int .i64 x] 2)
  simp only [World.cell?, this]
  simp
set_option maxHeartbeats 2000000 in
theorem numbers_any (w : World) (v : Value) (ws : List ByteArray) (h : Wd w v ws) (hn : ws.length ≤ 8) (hsz : ∀ x ∈ ws, x.size ≤ 9223372036854775807) :
    Calls Tryz.prog 42 #[v] w (NsPost w ws) := by
  obtain ⟨p, cap, rfl, hc⟩ := h.ex
  have HC := Lib.hid hc
  have HZ := Lib.hid hsz
  have O0 := Own.nilled w (fun _ => 0)
  have C0 := below_new w (.cells #[] 2)
  clear h hc hsz
  go_enter Tryz.func42, Tryz.ntmps42
  go_wp2_with fail
  go_loopw [5, 4, 6, 7] (fun i out _ _ wr => ∃ (k g : Nat) (d : Nat → Int) (out' : Value), i = .int .i64 k ∧ out' = out ∧ k ≤ ws.length ∧ Own wr out' k d g ∧ w.heap.size ≤ g ∧ (∀ j x, j < k → ws[j]? = some x → IsDec d j x) ∧ Below w.heap.size w wr) (fun i _ _ _ _ => ws.length - (intOf i).toNat)
  case atStart => exact ⟨0, _, _, _, rfl, rfl, Nat.zero_le _, O0, Nat.le_refl _, fun j x hj => by omega, C0⟩
  case round =>
    obtain ⟨k, g, d, out, rfl, rfl, hk, hO, hg, hd, hB⟩ := hrel
    obtain ⟨co, rfl⟩ := hO.shape
    have HO := Lib.hid hO
    have HD := Lib.hid hd
    have HB := Lib.hid hB
    have hsr := hB.size
    clear hO hd hB
    by_cases hlt : k < ws.length
    · rcases HC.out with h0 | ⟨bw, o, rfl, hb, hcell⟩
      · rw [h0] at hlt
        simp at hlt
      obtain ⟨x, hx⟩ : ∃ x, ws[k]? = some x := ⟨ws[k], List.getElem?_eq_getElem hlt⟩
      have c1 : wr.cell? ⟨bw, o + k, none⟩ = some (.string x) := (HB.out.cell (p := ⟨bw, o + k, none⟩) hb).trans (hcell k x hx)
      have hkI : (k : Int) < ws.length := by omega
      have hxz := HZ.out x (List.mem_of_getElem? hx)
      have HX := Lib.hid hx
      clear hx hcell
      go_wp2_with fail
      refine (value_any x wr hxz).mono ?_
      rintro e w2 ⟨m, ok, rfl, hm, ht, hf, b2⟩
      have HT := Lib.hid ht
      have HF := Lib.hid hf
      have HB2 := Lib.hid (HB.out.trans (b2.mono hsr))
      have O2 := HO.out.keep (b2.block g HO.out.lt)
      have hs2 := Nat.le_trans hsr b2.size
      have hgl := O2.lt
      clear b2 ht hf
      cases ok
      · clear O2
        go_wp2_with fail
        refine bodyPost_ret (v := .tuple #[.slice none 0 0, .bool false]) (by simp [results, Tryz.results42, go_sem]) rfl ⟨.inl ⟨rfl, k, x, HX.out, HF.out (by trivial)⟩, HB2.out⟩
      · obtain ⟨v5, w5, g5, hr, ap⟩ := app_run (w2.alloc (.cells #[.int .i64 m] 2)) _ k d g m w2.heap.size (O2.alloc _) (cell_i1 w2 m) (by omega)
        have Y := Lib.hid (ap.below (B := w.heap.size) hg (by rw [szal]; omega))
        have AP := Lib.hid ap.own
        have HB5 := Lib.hid ((HB2.out.trans ((below_new w2 (.cells #[.int .i64 m] 2)).mono hs2)).trans Y.out.1)
        clear ap O2
        go_wp2_with (at_builtin; refine mem.wpList_appT hr rfl _ _ rfl rfl rfl rfl ?_)
        go_roundw
        case rel => exact ⟨k + 1, g5, _, v5, by go_num, rfl, hlt, AP.out, Y.out.2, fun j y hj hy => by
          rcases (by omega : j < k ∨ j = k) with hj | rfl
          · obtain ⟨m', h1, h2⟩ := HD.out j y hj hy
            exact ⟨m', by unfold upd; rw [if_neg (by omega)]; exact h1, h2⟩
          · obtain rfl : y = x := by
              have := hy.symm.trans HX.out
              injection this
            exact ⟨m, by unfold upd; rw [if_pos rfl], hm, HT.out (by trivial)⟩, HB5.out⟩
        case measure => simp [intOf]; omega
    · obtain rfl : k = ws.length := by omega
      go_wp2_with fail
      refine bodyPost_ret (v := .tuple #[.slice (some ⟨g, 0, none⟩) ws.length co, .bool true]) (by simp [results, Tryz.results42, go_sem]) rfl ⟨.inr ⟨_, g, d, rfl, HO.out, hg, fun j x hx => HD.out j x (List.getElem?_eq_some_iff.1 hx).1 hx⟩, HB.out⟩
end Go.Proofs.YtbenloeomjdkcaaGreatDoor.text

namespace Go.Proofs.YtbenloeomjdkcaaGreatDoor.text
open Go.RowKit Go.Proofs.YtbenloeomjdkcaaGreatDoor.mem
set_option linter.unusedVariables false
set_option maxRecDepth 100000

/-- the first wrong line of a text, as the program answers -/
def FWAns (s : List UInt8) (x : Int) : Prop :=
  (x = -1 ∧ ∃ n N m P ls, ls ≠ [] ∧ Chain n N m P ls ∧ s = glue ls) ∨
  ∃ n N m P ls rest, x = (ls.length : Nat) ∧ Chain n N m P ls ∧ s = glue ls ++ rest ∧ NoStep n N m P ls rest
set_option maxHeartbeats 4000000 in
theorem firstWrong_any (w : World) (s : ByteArray) (hE : Env w) (hs : s.size ≤ 4000) :
    Calls Tryz.prog 15 #[.string s] w fun e w' => ∃ x : Int, e = .returned (.tuple #[.int .i64 x, .int .i64 0]) ∧ FWAns s.data.toList x ∧ Below w.heap.size w w' := by
  have hmf : ∀ (fn : Fn) (first cap : Array Value) (w : World), (Instr.makeFunc fn first cap).run Tryz.prog w = .ok (.func fn first cap) w := fun _ _ _ _ => rfl
  have P2 := Ob.new w #[.slice none 0 0, .slice none 0 0, .int .i64 0, .slice none 0 0] 40 4 (parC (.slice none 0 0) (.slice none 0 0) 0 (.slice none 0 0)) rfl (fun k hk => by
    rcases (by omega : k = 0 ∨ k = 1 ∨ k = 2 ∨ k = 3) with rfl | rfl | rfl | rfl <;> rfl)
  have C2 := below_new w (.cells #[.slice none 0 0, .slice none 0 0, .int .i64 0, .slice none 0 0] 40)
  have hz : (w.alloc (.cells #[.slice none 0 0, .slice none 0 0, .int .i64 0, .slice none 0 0] 40)).heap.size = w.heap.size + 1 := by simp
  have HE := Lib.hid hE
  clear hE
  have hsI : (s.size : Int) ≤ 4000 := by omega
  go_enter Tryz.func15, Tryz.ntmps15
  go_wp2_with fail
  generalize hW : w.alloc (Obj.cells #[.slice none 0 0, .slice none 0 0, .int .i64 0, .slice none 0 0] 40) = w2 at *
  clear hW
  replace hz := Nat.le_antisymm_iff.1 hz
  refine (acceptsText_any w w2 w.heap.size (.slice none 0 0) s P2 HE.out C2 (by omega) (by omega)).mono ?_
  have CH := Lib.hid C2
  have hb2 : ∀ X : World, Upd (· = w.heap.size) w2 X → Below w.heap.size w X := fun X u => CH.out.trans (u.below (by omega) (by rintro q _ rfl; omega))
  have HB2 := Lib.hid hb2
  clear C2 hb2 P2
  rintro e w3 (⟨rfl, U3, n, N, m, P, ls, rest, d1, d2, d3, d4⟩ | ⟨n, N, m, P, ls, p1, c1, p2, c2, vW, d0, d1, d2, rfl, O2, R2, R3, U3⟩)
  · have H := Lib.hid (.inr ⟨n, N, m, P, ls, rest, rfl, d1, d2, d4⟩ : FWAns s.data.toList (ls.length : Nat))
    have HB := Lib.hid (HB2.out w3 U3)
    clear d1 d2 d4 U3
    go_wp2_with fail
    go_ret2
    exact ⟨_, rfl, H.out, HB.out⟩
  · have H := Lib.hid (⟨n, N, m, P, ls, d0, d1, d2⟩ : ∃ n N m P ls, ls ≠ [] ∧ Chain n N m P ls ∧ s.data.toList = glue ls)
    have HB := Lib.hid (HB2.out w3 U3)
    clear d0 d1 d2 U3 O2 R2 R3
    go_wp2_with fail
    go_ret2
    exact ⟨_, rfl, .inl ⟨rfl, H.out⟩, HB.out⟩
end Go.Proofs.YtbenloeomjdkcaaGreatDoor.text

namespace Go.Proofs.YtbenloeomjdkcaaGreatDoor.text
open Go.RowKit Go.Proofs.YtbenloeomjdkcaaGreatDoor.mem
set_option linter.unusedVariables false
set_option maxRecDepth 100000

def nodeVS (q : Nod) : Value := .agg #[.string q.s, .int .i64 q.lo, .int .i64 q.hi]
def SNAns (s : ByteArray) (e : Ending) : Prop :=
  (∃ q, nodB q = true ∧ nodeL q = s.data.toList ∧ e = .returned (.tuple #[nodeVS q, .bool true])) ∨ ((∀ q, nodB q = true → nodeL q ≠ s.data.toList) ∧ e = .returned (.tuple #[nodeVS ⟨⟨#[]⟩, 0, 0⟩, .bool false]))
set_option maxHeartbeats 4000000 in
theorem sReadNodeLine_any (w : World) (s : ByteArray) (hs : s.size ≤ 1048576) :
    Calls Tryz.prog 41 #[.string s] w fun e w' => SNAns s e ∧ Below w.heap.size w w' := by
  have R1 := boxedN w ⟨⟨#[]⟩, 0, 0⟩ 55
  have C1 := below_new w (.cells #[.string ⟨#[]⟩, .int .i64 0, .int .i64 0] 55)
  have hz1 : (w.alloc (.cells #[.string ⟨#[]⟩, .int .i64 0, .int .i64 0] 55)).heap.size = w.heap.size + 1 := by simp
  go_enter Tryz.func41, Tryz.ntmps41
  go_wp2_with fail
  generalize hW : w.alloc (Obj.cells #[.string ⟨#[]⟩, .int .i64 0, .int .i64 0] 55) = w1 at *
  clear hW
  replace hz1 := Nat.le_antisymm_iff.1 hz1
  refine (split_any w1 s hs).mono ?_
  rintro e w2 ⟨v, bs, rfl, W2, hbs, b2⟩
  have hl1 := R1.lt
  have R2 := R1.below b2 hl1
  have C2 := C1.trans (b2.mono C1.size)
  have hs2 := b2.size
  -- storing into the result
  have fin : ∀ (X : World) (v0 v1 v2 : Value), Below w.heap.size w X → Below w.heap.size w (((X.setCell ⟨w.heap.size, 0, none⟩ v0).setCell ⟨w.heap.size, 1, none⟩ v1).setCell ⟨w.heap.size, 2, none⟩ v2) := fun X v0 v1 v2 u => by
    have hO := (((Only.refl w.heap.size X).setCell 0 v0).setCell 1 v1).setCell 2 v2
    exact u.trans (hO.below (Nat.le_refl _))
  have FIN := Lib.hid fin
  have HBS := Lib.hid hbs
  have HC2 := Lib.hid C2
  have hlen : ∀ q, nodB q = true → nodeL q = s.data.toList → ∃ y1 y2, bs = [⟨wNode.toArray⟩, q.s, y1, y2] ∧ y1.data.toList = Lib.decDigits q.lo.toNat ∧ y2.data.toList = Lib.decDigits q.hi.toNat := fun q hq e => by
    have h := HBS.out
    have h3 : 3 ≤ s.data.toList.length := by
      rw [← e, nodeL_cat]
      simp [wNode] <;> omega
    obtain ⟨k, hk⟩ : ∃ k, s.data.toList.length = k + 3 := ⟨s.data.toList.length - 3, by omega⟩
    rw [hk, ← e, sp_node hq k] at h
    rcases bs with _ | ⟨x0, _ | ⟨x1, _ | ⟨x2, _ | ⟨x3, _ | ⟨x4, r⟩⟩⟩⟩⟩
    all_goals simp at h
    obtain ⟨a0, a1, a2, a3⟩ := h
    refine ⟨x2, x3, ?_, a2, a3⟩
    have e0 : x0 = ⟨wNode.toArray⟩ := by
      obtain ⟨⟨l⟩⟩ := x0
      simp only at a0
      rw [a0]
    rw [e0, ByteArray.ext a1]
  have HLEN := Lib.hid hlen
  clear hbs b2 R1 C1 fin hlen C2
  obtain ⟨pv, cv, rfl⟩ := RowE.shape W2
  by_cases h4 : bs.length = 4
  rotate_left 1
  · have hne : ((bs.length : Int) != 4) = true := by simp; omega
    have r0 := R2.cell 0 (by omega)
    have r1 := R2.cell 1 (by omega)
    have r2 := R2.cell 2 (by omega)
    have f0 := R2.free 0
    have f1 := R2.free 1
    have f2 := R2.free 2
    have HF := Lib.hid (FIN.out w2 (.string ⟨#[]⟩) (.int .i64 0) (.int .i64 0) HC2.out)
    have hno : Hid (∀ q, nodB q = true → nodeL q ≠ s.data.toList) := Lib.hid (fun q hq e => by
      obtain ⟨y1, y2, h, _⟩ := HLEN.out q hq e
      rw [h] at h4
      exact h4 rfl)
    clear h4 W2 R2
    go_wp2_with fail
    refine bodyPost_ret (v := .tuple #[.agg #[.string ⟨#[]⟩, .int .i64 0, .int .i64 0], .bool false]) (by simp [results, Tryz.results41, go_sem, r0, r1, r2]) rfl ⟨.inr ⟨hno.out, rfl⟩, HF.out⟩
  rcases bs with _ | ⟨x0, _ | ⟨x1, _ | ⟨x2, _ | ⟨x3, _ | ⟨x4, r⟩⟩⟩⟩⟩
  all_goals first | (exfalso; simp only [List.length_cons, List.length_nil] at h4; omega) | skip
  obtain ⟨gw, cw, he, hgw, hcw, hcells⟩ := words_cells W2 (by simp)
  injection he with e1 _ e3
  subst e1 e3
  have c1 : w2.cell? ⟨gw, 1, none⟩ = some (.string x1) := hcells 1 x1 rfl
  have D2 : Wd w2 (.slice (some ⟨gw, 2, none⟩) 2 (cv - 2)) [x2, x3] := ⟨_, _, rfl, .inr ⟨gw, 2, rfl, hgw, fun i y hy => by
    have := hcells (i + 2) y (by simpa using hy)
    rw [show 0 + (i + 2) = 2 + i by omega] at this
    exact this⟩⟩
  have hxs : ∀ y ∈ [x0, x1, x2, x3], y.size ≤ 1048576 := fun y hy => by
    have h1 : y.data.toList ∈ sp s.data.toList.length s.data.toList := by rw [← HBS.out]; exact List.mem_map_of_mem hy
    have h2 := sp_size _ _ _ h1
    have e1 : y.data.toList.length = y.size := Array.length_toList
    have e2 : s.data.toList.length = s.size := Array.length_toList
    omega
  have HXS := Lib.hid hxs
  simp only [List.length_cons, List.length_nil] at hcw
  have hcv2 : ¬ cv = 2 := by omega
  have hcv4 : (2 : Int) ≤ cv := by omega
  clear h4 W2 hcells hxs
  have hl2 := R2.lt
  go_wp2_with fail
  refine (numbers_any w2 _ [x2, x3] D2 (by simp) (fun y hy => by have := HXS.out y (List.mem_cons_of_mem _ (List.mem_cons_of_mem _ hy)); omega)).mono ?_
  rintro e w3 ⟨(⟨rfl, j, y, hj, hno⟩ | ⟨vn, gn, d, rfl, O3, hgn, hd⟩), b3⟩
  · have R3 := R2.below b3 hl2
    have r0 := R3.cell 0 (by omega)
    have r1 := R3.cell 1 (by omega)
    have r2 := R3.cell 2 (by omega)
    have f0 := R3.free 0
    have f1 := R3.free 1
    have f2 := R3.free 2
    have HF := Lib.hid (FIN.out w3 (.string ⟨#[]⟩) (.int .i64 0) (.int .i64 0) (HC2.out.trans (b3.mono HC2.out.size)))
    have hnq : Hid (∀ q, nodB q = true → nodeL q ≠ s.data.toList) := Lib.hid (fun q hq e => by
      obtain ⟨y1, y2, h, e1, e2⟩ := HLEN.out q hq e
      simp only [List.cons.injEq, and_true] at h
      obtain ⟨_, _, rfl, rfl⟩ := h
      obtain ⟨_, a2, a3⟩ := nod_bd hq
      rcases j with _ | _ | j
      · simp at hj
        subst hj
        exact hno q.lo.toNat (by omega) e1.symm
      · simp at hj
        subst hj
        exact hno q.hi.toNat (by omega) e2.symm
      · simp at hj)
    clear R2 D2 b3 hno hj
    go_wp2_with fail
    refine bodyPost_ret (v := .tuple #[.agg #[.string ⟨#[]⟩, .int .i64 0, .int .i64 0], .bool false]) (by simp [results, Tryz.results41, go_sem, r0, r1, r2]) rfl ⟨.inr ⟨hnq.out, rfl⟩, HF.out⟩
  obtain ⟨m0, hd0, hm0, he0⟩ := hd 0 x2 rfl
  obtain ⟨m1, hd1, hm1, he1⟩ := hd 1 x3 rfl
  obtain ⟨cn, rfl⟩ := O3.shape
  have y0 : w3.cell? ⟨gn, 0, none⟩ = some (.int .i64 m0) := by rw [← hd0]; exact O3.row.cell 0 (by simp)
  have y1 : w3.cell? ⟨gn, 1, none⟩ = some (.int .i64 m1) := by rw [← hd1]; exact O3.row.cell 1 (by simp)
  have y2 : w3.cell? ⟨gw, 1, none⟩ = some (.string x1) := (b3.cell (p := ⟨gw, 1, none⟩) hgw).trans c1
  have R3 := R2.below b3 hl2
  have HC3 := Lib.hid (HC2.out.trans (b3.mono HC2.out.size))
  have HE0 := Lib.hid he0
  have HE1 := Lib.hid he1
  have hgnl := O3.lt
  have hgwl : gw < w3.heap.size := Nat.lt_of_lt_of_le hgw b3.size
  have hl3 := R3.lt
  have hx1z := HXS.out x1 (by simp)
  clear R2 D2 b3 hd hd0 hd1 he0 he1 c1 O3
  go_wp2_with fail
  have hAny : ∀ X : World, Below w3.heap.size w3 X → (fun w' : World => w'.cell? ⟨gn, 0, none⟩ = some (.int .i64 (m0 : Int)) ∧ w'.cell? ⟨gn, 1, none⟩ = some (.int .i64 (m1 : Int)) ∧ w'.cell? ⟨gw, 1, none⟩ = some (.string x1)) X := fun X h => ⟨(h.cell (p := ⟨gn, 0, none⟩) hgnl).trans y0, (h.cell (p := ⟨gn, 1, none⟩) hgnl).trans y1, (h.cell (p := ⟨gw, 1, none⟩) hgwl).trans y2⟩
  have K0 : Below w3.heap.size w3 w3.drew := ⟨rfl, rfl, rfl, Nat.le_refl _, fun _ _ => rfl⟩
  have KZ : Below w3.heap.size w3 (w3.alloc (.cells #[.string ⟨#[]⟩, .int .i64 0, .int .i64 0] 55)).drew := (below_new w3 _).trans ⟨rfl, rfl, rfl, Nat.le_refl _, fun _ _ => rfl⟩
  have KV : Below w3.heap.size w3 (w3.alloc (.cells #[.string x1, .int .i64 (m0 : Int), .int .i64 (m1 : Int)] 55)).drew := (below_new w3 _).trans ⟨rfl, rfl, rfl, Nat.le_refl _, fun _ _ => rfl⟩
  go_region_held3 (fun w' : World => w'.cell? ⟨gn, 0, none⟩ = some (.int .i64 (m0 : Int)) ∧ w'.cell? ⟨gn, 1, none⟩ = some (.int .i64 (m1 : Int)) ∧ w'.cell? ⟨gw, 1, none⟩ = some (.string x1)) (first | exact hAny _ K0 | exact hAny _ KZ | exact hAny _ KV) (fail)
  have V4 : Ob (w3.alloc (.cells #[.string x1, .int .i64 (m0 : Int), .int .i64 (m1 : Int)] 55)).drew w3.heap.size 3 _ := (boxedN w3 ⟨x1, m0, m1⟩ 55).keep rfl
  have R4 := R3.below KV hl3
  have C4 := Lib.hid (HC3.out.trans (KV.mono HC3.out.size))
  generalize hW : (w3.alloc (Obj.cells #[.string x1, .int .i64 (m0 : Int), .int .i64 (m1 : Int)] 55)).drew = w4 at *
  clear hW hAny K0 KZ R3
  have hs4 := KV.size
  have hsne : s.data.toList ≠ [] := fun e => by
    have h := HBS.out
    rw [e] at h
    simp [sp] at h
  have t0 : (s.toList == []) = false := by rw [beq_eq_false_iff_ne, Go.ByteArray.toList_eq]; exact hsne
  have q0 : w4.cell? ⟨w3.heap.size, 0, none⟩ = some (.string x1) := V4.cell 0 (by omega)
  have q1 : w4.cell? ⟨w3.heap.size, 1, none⟩ = some (.int .i64 (m0 : Int)) := V4.cell 1 (by omega)
  have q2 : w4.cell? ⟨w3.heap.size, 2, none⟩ = some (.int .i64 (m1 : Int)) := V4.cell 2 (by omega)
  have hl4 := V4.lt
  have hr4 := R4.lt
  have HNE := Lib.hid hsne
  clear hsne KV
  go_wp2_with fail
  refine (sNodeLine_any ⟨x1, m0, m1⟩ w4 (by show x1.size ≤ _; omega)).mono ?_
  rintro e w5 ⟨rfl, b5⟩
  have V5 := V4.below b5 hl4
  have R5 := R4.below b5 hr4
  have HC5 := Lib.hid (C4.out.trans (b5.mono C4.out.size))
  have r0 := R5.cell 0 (by omega)
  have r1 := R5.cell 1 (by omega)
  have r2 := R5.cell 2 (by omega)
  have f0 := R5.free 0
  have f1 := R5.free 1
  have f2 := R5.free 2
  have p0 : w5.cell? ⟨w3.heap.size, 0, none⟩ = some (.string x1) := V5.cell 0 (by omega)
  have p1 : w5.cell? ⟨w3.heap.size, 1, none⟩ = some (.int .i64 (m0 : Int)) := V5.cell 1 (by omega)
  have p2 : w5.cell? ⟨w3.heap.size, 2, none⟩ = some (.int .i64 (m1 : Int)) := V5.cell 2 (by omega)
  clear b5 V4 R4 V5 R5 q0 q1 q2 t0
  by_cases he : nodeT ⟨x1, m0, m1⟩ = s.data.toList
  · have he2 : (nodeT ⟨x1, m0, m1⟩ == s.toList) = true := by rw [beq_iff_eq, Go.ByteArray.toList_eq]; exact he
    have hv : Hid (nodB ⟨x1, m0, m1⟩ = true ∧ nodeL ⟨x1, m0, m1⟩ = s.data.toList) := Lib.hid (by
      cases hb : nodB ⟨x1, m0, m1⟩
      · unfold nodeT at he
        rw [hb] at he
        exact absurd he.symm HNE.out
      · unfold nodeT at he
        rw [if_pos hb] at he
        exact ⟨rfl, he⟩)
    have HF := Lib.hid (FIN.out w5 (.string x1) (.int .i64 m0) (.int .i64 m1) HC5.out)
    clear he
    go_wp2_with fail
    refine bodyPost_ret (v := .tuple #[.agg #[.string x1, .int .i64 m0, .int .i64 m1], .bool true]) (by simp [results, Tryz.results41, go_sem, r0, r1, r2]) rfl ⟨.inl ⟨⟨x1, m0, m1⟩, hv.out.1, hv.out.2, rfl⟩, HF.out⟩
  · have he2 : (nodeT ⟨x1, m0, m1⟩ == s.toList) = false := by rw [beq_eq_false_iff_ne, Go.ByteArray.toList_eq]; exact he
    have hno : Hid (∀ q, nodB q = true → nodeL q ≠ s.data.toList) := Lib.hid (fun q hq e => by
      obtain ⟨y1, y2, h, e1, e2⟩ := HLEN.out q hq e
      simp only [List.cons.injEq, and_true] at h
      obtain ⟨_, rfl, rfl, rfl⟩ := h
      obtain ⟨_, a2, a3⟩ := nod_bd hq
      have k0 := dec_inj (HE0.out.trans e1)
      have k1 := dec_inj (HE1.out.trans e2)
      obtain ⟨qs, qlo, qhi⟩ := q
      simp only at k0 k1 a2 a3
      have g0 : (m0 : Int) = qlo := by omega
      have g1 : (m1 : Int) = qhi := by omega
      apply he
      simp only
      rw [g0, g1, nodeT, if_pos hq]
      exact e)
    have HF := Lib.hid (FIN.out w5 (.string ⟨#[]⟩) (.int .i64 0) (.int .i64 0) HC5.out)
    clear he p0 p1 p2
    go_wp2_with fail
    refine bodyPost_ret (v := .tuple #[.agg #[.string ⟨#[]⟩, .int .i64 0, .int .i64 0], .bool false]) (by simp [results, Tryz.results41, go_sem, r0, r1, r2]) rfl ⟨.inr ⟨hno.out, rfl⟩, HF.out⟩
end Go.Proofs.YtbenloeomjdkcaaGreatDoor.text

namespace Go.Proofs.YtbenloeomjdkcaaGreatDoor.nl
open Go.RowKit Go.Proofs.YtbenloeomjdkcaaGreatDoor.mem Go.Proofs.YtbenloeomjdkcaaGreatDoor.text
set_option linter.unusedVariables false
set_option maxRecDepth 100000
theorem no_newline {L : List UInt8} {f k : Nat} (h : ∀ j, f ≤ j → j < k → L[j]? ≠ some 10) : (10 : UInt8) ∉ (L.drop f).take (k - f) := by
  intro hm
  obtain ⟨i, hi⟩ := List.mem_iff_getElem?.1 hm
  have hlt : i < k - f := by
    have := (List.getElem?_eq_some_iff.1 hi).1
    simp only [List.length_take] at this
    omega
  rw [List.getElem?_take, if_pos hlt, List.getElem?_drop] at hi
  exact h (f + i) (by omega) (by omega) hi
theorem drop_cut {L : List UInt8} {f k : Nat} (hf : f ≤ k) (h : L[k]? = some 10) : L.drop f = (L.drop f).take (k - f) ++ 10 :: L.drop (k + 1) := by
  have hk := (List.getElem?_eq_some_iff.1 h).1
  have e : (L.drop f).drop (k - f) = 10 :: L.drop (k + 1) := by
    rw [List.drop_drop, show f + (k - f) = k by omega, List.drop_eq_getElem_cons hk]
    congr 1
    exact (List.getElem?_eq_some_iff.1 h).2
  rw [← e, List.take_append_drop]
theorem split_step {L : List UInt8} {f k : Nat} (hf : f ≤ k) (h : L[k]? = some 10) (hn : ∀ j, f ≤ j → j < k → L[j]? ≠ some 10) : sp L.length (L.drop f) = (L.drop f).take (k - f) :: sp L.length (L.drop (k + 1)) := by
  have hk := (List.getElem?_eq_some_iff.1 h).1
  obtain ⟨m, hm⟩ : ∃ m, L.length = m + 1 := ⟨L.length - 1, by omega⟩
  rw [hm, drop_cut hf h, sp_one (no_newline hn)]
  congr 1
  · rw [← drop_cut hf h]
  · exact sp_big _ _ _ (by simp; omega) (by simp; omega)
theorem split_last {L : List UInt8} {f : Nat} (hn : ∀ j, f ≤ j → j < L.length → L[j]? ≠ some 10) : sp L.length (L.drop f) = [(L.drop f).take (L.length - f)] := by
  have e : (L.drop f).take (L.length - f) = L.drop f := List.take_of_length_le (by simp)
  have := no_newline hn
  rw [e] at this ⊢
  exact sp_end this
/-- how far the splitting has come -/
structure Split (L : List UInt8) (k f : Nat) (bs : List ByteArray) : Prop where
  ex : (k ≤ L.length ∧ f ≤ k ∧ bs.length ≤ k ∧ sp L.length L = bs.map (·.data.toList) ++ sp L.length (L.drop f) ∧ ∀ j, f ≤ j → j < k → L[j]? ≠ some 10) ∨ (k = L.length + 1 ∧ sp L.length L = bs.map (·.data.toList))

set_option maxHeartbeats 2000000 in
theorem split_any (w : World) (s : ByteArray) (hs : s.size ≤ 1048576) :
    Calls Tryz.prog 40 #[.string s, .int .u8 10] w fun e w' => ∃ v bs, e = .returned v ∧ Words w.heap.size w' v bs ∧ bs.map (·.data.toList) = sp s.data.toList.length s.data.toList ∧ Below w.heap.size w w' := by
  have hL : s.data.toList.length = s.size := Array.length_toList
  have HL := Lib.hid hL
  have W0 : Words w.heap.size (w.alloc (.cells #[] 9)) (.slice (some ⟨w.heap.size, 0, none⟩) 0 0) [] := words_new w [] (by simp)
  have C0 := below_new w (.cells #[] 9)
  clear hL
  go_enter Tryz.func40, Tryz.ntmps40
  go_wp2_with fail
  go_loopw [7, 5, 6] (fun i out fr wr => ∃ (k f : Nat) (out' : Value) (bs : List ByteArray), i = .int .i64 k ∧ fr = .int .i64 f ∧ out' = out ∧ Words w.heap.size wr out' bs ∧ Split s.data.toList k f bs ∧ Below w.heap.size w wr) (fun i _ _ _ => s.size + 1 - (intOf i).toNat)
  case atStart => exact ⟨0, 0, _, [], rfl, rfl, rfl, W0, ⟨.inl ⟨Nat.zero_le _, Nat.le_refl _, Nat.le_refl _, by simp, fun j h1 h2 => by omega⟩⟩, C0⟩
  case round =>
    obtain ⟨k, f, out, bs, rfl, rfl, rfl, hW, hS, hB⟩ := hrel
    obtain ⟨po, co, rfl⟩ := RowE.shape hW
    have HW := Lib.hid hW
    have HB := Lib.hid hB
    have hsz : w.heap.size ≤ wr.heap.size := hB.size
    rcases hS.ex with ⟨h1, h2, h3, h4, h5⟩ | ⟨h1, h4⟩
    · rw [HL.out] at h1
      have H4 := Lib.hid h4
      have H5 := Lib.hid h5
      clear hW hB hS h4 h5
      have app : ∀ (W1 : ∃ L', s.extract f k = L'), ∃ v' w', Sem.run Tryz.prog (Builtin.append_ #[38, 38] 38 #[.slice po bs.length co, .slice (some ⟨wr.heap.size, 0, none⟩) 1 1]) (wr.alloc (.cells #[.string (s.extract f k)] 9)) = .ok v' w' ∧ Words w.heap.size w' v' (bs ++ [s.extract f k]) ∧ Below w.heap.size w w' := fun _ => by
        obtain ⟨v', w', hr, hw', hu⟩ := words_app2 w.heap.size wr _ bs (s.extract f k) HW.out hsz (by omega)
        exact ⟨v', w', hr, hw', HB.out.trans (hu.below hsz (fun x _ e => (HW.out.own.lt x e.symm).1))⟩
      obtain ⟨v5, w5, hr, hw5, hb5⟩ := app ⟨_, rfl⟩
      have HW5 := Lib.hid hw5
      have HB5 := Lib.hid hb5
      clear app hw5 hb5
      have hfk : (f : Int) ≤ k := by omega
      have hks : (k : Int) ≤ s.size := by omega
      by_cases hlt : k < s.size
      · have hg : s.data.toList[k]? = some s[k] := by simp [ByteArray.getElem_eq_getElem_data]
        have HG := Lib.hid hg
        have hki : (k : Int) < s.size := by omega
        have hne : ((k : Int) == s.size) = false := by simp; omega
        clear hg
        by_cases hc : (s[k].toNat : Int) = 10
        · have h32 : s[k] = 10 := by
            apply UInt8.toNat_inj.1
            have : (10 : UInt8).toNat = 10 := rfl
            omega
          have st := split_step h2 (HG.out.trans (by rw [h32])) H5.out
          have HST := Lib.hid st
          clear st h32
          go_wp2_with (at_builtin; refine mem.wpList_appT hr rfl _ _ rfl rfl rfl rfl ?_)
          go_roundw
          case rel => exact ⟨k + 1, k + 1, v5, _, by go_num, by go_num, rfl, HW5.out, ⟨.inl ⟨by rw [HL.out]; omega, Nat.le_refl _, by simp; omega, by rw [H4.out, HST.out, List.map_append, List.map_cons, List.map_nil, extract_mid s f k (by omega), List.append_assoc]; rfl, fun j h1 h2 => by omega⟩⟩, HB5.out⟩
          case measure => simp [intOf]; omega
        · have hc' : ((s[k].toNat : Int) == 10) = false := by simpa using hc
          have hn32 : Hid (s.data.toList[k]? ≠ some 10) := Lib.hid (fun e => by
            rw [HG.out] at e
            injection e with e
            rw [e] at hc
            exact hc rfl)
          clear hc hr
          go_wp2_with fail
          go_roundw
          case rel => exact ⟨k + 1, f, _, bs, by go_num, rfl, rfl, HW.out, ⟨.inl ⟨by rw [HL.out]; omega, by omega, by omega, H4.out, fun j g1 g2 => by
            rcases (by omega : j < k ∨ j = k) with g | g
            · exact H5.out j g1 g
            · rw [g]; exact hn32.out⟩⟩, HB.out⟩
          case measure => simp [intOf]; omega
      · obtain rfl : k = s.size := by omega
        have st := split_last (L := s.data.toList) (f := f) (by rw [HL.out]; exact H5.out)
        have HST := Lib.hid st
        clear st
        go_wp2_with (at_builtin; refine mem.wpList_appT hr rfl _ _ rfl rfl rfl rfl ?_)
        go_roundw
        case rel => exact ⟨s.size + 1, s.size + 1, v5, _, by go_num, by go_num, rfl, HW5.out, ⟨.inr ⟨by rw [HL.out], by rw [H4.out, HST.out, List.map_append, List.map_cons, List.map_nil, extract_mid s f s.size (Nat.le_refl _), HL.out]⟩⟩, HB5.out⟩
        case measure => simp [intOf] <;> omega
    · rw [HL.out] at h1
      subst h1
      have H4 := Lib.hid h4
      clear hW hB hS h4
      go_wp2_with fail
      go_ret
      exact ⟨_, bs, rfl, HW.out, H4.out.symm, HB.out⟩
end Go.Proofs.YtbenloeomjdkcaaGreatDoor.nl

namespace Go.Proofs.YtbenloeomjdkcaaGreatDoor.text
open Go.RowKit Go.Proofs.YtbenloeomjdkcaaGreatDoor.mem
set_option linter.unusedVariables false

theorem netB_iff {n : Nat} {N : Nat → Nod} {m : Nat} {P : Nat → Pip} : netB n N m P = true ↔ (1 ≤ n ∧ n ≤ 24 ∧ m ≤ 40) ∧ ((∀ i, i < n → nodB (N i) = true) ∧ distP N n) ∧ ∀ i, i < m → pipB n (P i) = true := by
  unfold netB
  simp only [Bool.and_eq_true]
  rw [szB_iff, nodesB_iff, pipesB_iff, and_assoc]
theorem netB_congr {n : Nat} {N N' : Nat → Nod} {m : Nat} {P P' : Nat → Pip} (h : netB n N m P = true) (hN : ∀ i, i < n → N i = N' i) (hP : ∀ i, i < m → P i = P' i) : netB n N' m P' = true := by
  rw [netB_iff] at h ⊢
  exact ⟨h.1, ⟨fun i hi => by rw [← hN i hi]; exact h.2.1.1 i hi, fun i j hij hj => by rw [← hN i (by omega), ← hN j hj]; exact h.2.1.2 i j hij hj⟩, fun i hi => by rw [← hP i hi]; exact h.2.2 i hi⟩
theorem netB_take {n : Nat} {N : Nat → Nod} {m : Nat} {P : Nat → Pip} (h : netB n N m P = true) (k : Nat) (hk : 1 ≤ k) : netB (min k n) N (min (k - n) m) P = true := by
  rw [netB_iff] at h ⊢
  obtain ⟨⟨h1, h2, h3⟩, ⟨h4, h5⟩, h6⟩ := h
  refine ⟨⟨by omega, by omega, by omega⟩, ⟨fun i hi => h4 i (by omega), fun i j hij hj => h5 i j hij (by omega)⟩, fun i hi => ?_⟩
  by_cases e : n ≤ k
  · rw [Nat.min_eq_right e]
    exact h6 i (by omega)
  · omega
theorem lns_len (n : Nat) (N : Nat → Nod) (m : Nat) (P : Nat → Pip) : (lns n N m P).length = n + m := by
  unfold lns
  simp
theorem lns_node {n : Nat} {N : Nat → Nod} {m : Nat} {P : Nat → Pip} {i : Nat} (hi : i < n) : (lns n N m P)[i]? = some (nodeL (N i)) := by
  unfold lns
  rw [List.getElem?_append_left (by simpa using hi)]
  simp [hi]
theorem lns_pipe {n : Nat} {N : Nat → Nod} {m : Nat} {P : Nat → Pip} {i : Nat} (hi : i < m) : (lns n N m P)[n + i]? = some (pipeL N (P i)) := by
  unfold lns
  rw [List.getElem?_append_right (by simp)]
  simp [hi]
theorem lns_take (n : Nat) (N : Nat → Nod) (m : Nat) (P : Nat → Pip) (k : Nat) : (lns n N m P).take k = lns (min k n) N (min (k - n) m) P := by
  unfold lns
  rw [List.take_append, ← List.map_take, ← List.map_take, List.take_range, List.take_range, List.length_map, List.length_range]
theorem glue_one (a : List UInt8) : glue [a] = a ++ [10] := by simp [glue]
theorem lineOK_lns {n : Nat} {N : Nat → Nod} {m : Nat} {P : Nat → Pip} {ps : List ByteArray} {n' : Nat} {N' : Nat → Nod} {m' : Nat} {P' : Nat → Pip} {s : List UInt8} (h : LineOK n N m P ps n' N' m' P') (hb : netB n' N' m' P' = true) (hps : ps.map (·.data.toList) = sp 6 s) : lns n' N' m' P' = lns n N m P ++ [s] := by
  have hT := lineOK_text h hb hps
  rw [netL_glue, netL_glue] at hT
  obtain ⟨x, hx⟩ : ∃ x, lns n' N' m' P' = lns n N m P ++ [x] := by
    rcases h with ⟨rfl, x0, x1, x2, l0, h0, _, _, _, rfl, rfl, rfl, rfl⟩ | ⟨x0, x1, x2, x3, x4, kk, vv, ll, _, _, _, _, _, _, rfl, rfl, rfl, rfl⟩
    · refine ⟨nodeL ⟨x0, l0, h0⟩, ?_⟩
      unfold lns
      have e : (List.range n).map (fun i => nodeL (addN N n ⟨x0, l0, h0⟩ i)) = (List.range n).map (fun i => nodeL (N i)) := List.map_congr_left (fun i hi => by unfold addN; rw [if_pos (List.mem_range.1 hi)])
      rw [List.range_succ, List.map_append, e]
      simp [addN]
    · refine ⟨pipeL N' ⟨nnV n' N' m P x0, nnV n' N' m P x1, kk, vv, ll⟩, ?_⟩
      unfold lns
      have e : (List.range m).map (fun i => pipeL N' (addP P m ⟨nnV n' N' m P x0, nnV n' N' m P x1, kk, vv, ll⟩ i)) = (List.range m).map (fun i => pipeL N' (P i)) := List.map_congr_left (fun i hi => by unfold addP; rw [if_pos (List.mem_range.1 hi)])
      rw [List.range_succ, List.map_append, e]
      simp [addP]
  rw [hx, glue_app, glue_one] at hT
  rw [hx, List.append_cancel_right (List.append_cancel_left hT)]
theorem chain_lns {n : Nat} {N : Nat → Nod} {m : Nat} {P : Nat → Pip} {ls : List (List UInt8)} (h : Chain n N m P ls) : ls = lns n N m P := by
  induction h with
  | nil => rfl
  | snoc _ hps hl hb ih => rw [lineOK_lns hl hb hps, ← ih]
theorem chain_valid {n : Nat} {N : Nat → Nod} {m : Nat} {P : Nat → Pip} {ls : List (List UInt8)} (h : Chain n N m P ls) (hne : ls ≠ []) : netB n N m P = true := by
  cases h with
  | nil => exact absurd rfl hne
  | snoc _ _ _ hb => exact hb
theorem chain_text {n : Nat} {N : Nat → Nod} {m : Nat} {P : Nat → Pip} {ls : List (List UInt8)} (h : Chain n N m P ls) : netL n N m P = glue ls := by
  rw [netL_glue, ← chain_lns h]
theorem chain_noline {n : Nat} {N : Nat → Nod} {m : Nat} {P : Nat → Pip} {ls : List (List UInt8)} (h : Chain n N m P ls) : ∀ a ∈ ls, (10 : UInt8) ∉ a := by
  intro a ha
  have hne : ls ≠ [] := by rintro rfl; cases ha
  have hb := chain_valid h hne
  rw [chain_lns h] at ha
  exact lns_noline hb a ha
theorem glue_pre : ∀ (B A : List (List UInt8)) (r : List UInt8), (∀ a ∈ A, (10 : UInt8) ∉ a) → (∀ b ∈ B, (10 : UInt8) ∉ b) → glue A = glue B ++ r → ∃ C, A = B ++ C ∧ glue C = r
  | [], A, r, _, _, h => ⟨A, rfl, h⟩
  | b :: B, [], r, _, _, h => by simp [glue] at h
  | b :: B, a :: A, r, hA, hB, h => by
    have e1 : glue (a :: A) = a ++ 10 :: glue A := by simp [glue]
    have e2 : glue (b :: B) ++ r = b ++ 10 :: (glue B ++ r) := by simp [glue]
    have c1 := nl.cut_at (a := a) (t := glue A) (hA a (List.mem_cons_self ..))
    have c2 := nl.cut_at (a := b) (t := glue B ++ r) (hB b (List.mem_cons_self ..))
    rw [← e1, h, e2] at c1
    have ea : a = b := c1.1.symm.trans c2.1
    have eb : glue A = glue B ++ r := c1.2.symm.trans c2.2
    obtain ⟨C, h1, h2⟩ := glue_pre B A r (fun x hx => hA x (List.mem_cons_of_mem _ hx)) (fun x hx => hB x (List.mem_cons_of_mem _ hx)) eb
    exact ⟨C, by rw [ea, h1]; rfl, h2⟩
theorem nn_at {n : Nat} {N : Nat → Nod} {m : Nat} {P : Nat → Pip} (hb : netB n N m P = true) {f : Nat} (hf : f < n) : nnC n N m P (N f).s = 0 ∧ nnV n N m P (N f).s = f := by
  have hd := nodes_of hb
  have h : nnF N n (N f).s = some f := nnF_some hf (nnP_iff.2 rfl) (fun x hx => by
    cases hp : nnP N (N f).s x
    · rfl
    · exact absurd (nnP_iff.1 hp) (hd x f hx hf))
  unfold nnC nnV
  rw [if_pos hb, if_pos hb, h]
  exact ⟨rfl, rfl⟩
theorem node_step {q : Nod} (hq : nodB q = true) (n : Nat) (N : Nat → Nod) (P : Nat → Pip) {ps : List ByteArray} (hps : ps.map (·.data.toList) = sp 6 (nodeL q)) : LineOK n N 0 P ps (n + 1) (addN N n q) 0 P := by
  obtain ⟨_, a, b⟩ := nod_bd hq
  refine .inl ⟨rfl, q.s, ⟨(Lib.decDigits q.lo.toNat).toArray⟩, ⟨(Lib.decDigits q.hi.toNat).toArray⟩, q.lo, q.hi, map_ba _ _ ?_, numOK_dec a.1 (by omega), numOK_dec b.1 (by omega), rfl, rfl, rfl, rfl⟩
  rw [hps, sp_node hq 3]
  rfl
theorem pipe_step {n : Nat} {N : Nat → Nod} {m : Nat} {P : Nat → Pip} (hb : netB n N m P = true) {q : Pip} (hq : pipB n q = true) {ps : List ByteArray} (hps : ps.map (·.data.toList) = sp 6 (pipeL N q)) : LineOK n N m P ps n N (m + 1) (addP P m q) := by
  obtain ⟨f, t, e1, e2, f1, t1, k0, v0, l0⟩ := pip_bd hq
  have hN := (net_nodes hb).1
  unfold pipB at hq
  simp only [Bool.and_eq_true] at hq
  have hk := inR_iff.1 hq.1.1.2
  have hv := inR_iff.1 hq.1.2
  have hl := inR_iff.1 hq.2
  have ef : q.f.toNat = f := by omega
  have et : q.t.toNat = t := by omega
  rw [sp_pipe (hN _ (by omega)) (hN _ (by omega)) 1, ef, et] at hps
  refine .inr ⟨(N f).s, (N t).s, ⟨(Lib.decDigits q.k.toNat).toArray⟩, ⟨(Lib.decDigits q.v.toNat).toArray⟩, ⟨(Lib.decDigits q.l.toNat).toArray⟩, q.k, q.v, q.l, map_ba _ _ (hps.trans rfl), (nn_at hb f1).1, (nn_at hb t1).1, numOK_dec k0 (by omega), numOK_dec v0 (by omega), numOK_dec l0 (by omega), rfl, rfl, rfl, ?_⟩
  rw [(nn_at hb f1).2, (nn_at hb t1).2, ← e1, ← e2]
/-- where a valid network's text begins with a chain's lines and goes on with a line, that line is the chain's next -/
theorem next_line {n : Nat} {N : Nat → Nod} {m : Nat} {P : Nat → Pip} {ls : List (List UInt8)} (hc : Chain n N m P ls) {n' : Nat} {N' : Nat → Nod} {m' : Nat} {P' : Nat → Pip} (hb : netB n' N' m' P' = true) {a t : List UInt8} (ha : (10 : UInt8) ∉ a) (he : netL n' N' m' P' = glue ls ++ (a ++ 10 :: t)) {ps : List ByteArray} (hps : ps.map (·.data.toList) = sp 6 a) : ∃ n1 N1 m1 P1, LineOK n N m P ps n1 N1 m1 P1 ∧ netB n1 N1 m1 P1 = true := by
  have hl := chain_lns hc
  have hlen : ls.length = n + m := by rw [hl, lns_len]
  rw [netL_glue] at he
  obtain ⟨C, h1, h2⟩ := glue_pre ls _ _ (lns_noline hb) (chain_noline hc) he
  obtain ⟨C2, rfl⟩ : ∃ C2, C = a :: C2 := by
    rcases C with _ | ⟨c, C2⟩
    · simp [glue] at h2
    · refine ⟨C2, ?_⟩
      have e1 : glue (c :: C2) = c ++ 10 :: glue C2 := by simp [glue]
      have hcn : (10 : UInt8) ∉ c := lns_noline hb c (by rw [h1]; simp)
      have c1 := nl.cut_at (a := c) (t := glue C2) hcn
      rw [← e1, h2] at c1
      rw [← c1.1, (nl.cut_at ha).1]
  have htake : (lns n' N' m' P').take ls.length = ls := by rw [h1, List.take_left]
  have hat : (lns n' N' m' P')[ls.length]? = some a := by rw [h1]; simp
  have hlt : ls.length < n' + m' := by
    have := congrArg List.length h1
    rw [lns_len] at this
    simp at this
    omega
  obtain ⟨hN', hP'⟩ := net_nodes hb
  have hsz := net_sz hb
  rw [lns_take] at htake
  obtain ⟨en, em, eN, eP⟩ : n = min ls.length n' ∧ m = min (ls.length - n') m' ∧ (∀ i, i < n → N i = N' i) ∧ ∀ i, i < m → P i = P' i := by
    by_cases h0 : ls.length = 0
    · exact ⟨by omega, by omega, fun i hi => by omega, fun i hi => by omega⟩
    · exact netL_inj (chain_valid hc (by rintro rfl; exact h0 rfl)) (netB_take hb _ (by omega)) (by rw [chain_text hc, netL_glue, htake])
  by_cases hk : ls.length < n'
  · obtain rfl : m = 0 := by omega
    have en' : ls.length = n := by omega
    rw [en', lns_node (by omega)] at hat
    injection hat with hat
    subst hat
    refine ⟨_, _, _, _, node_step (hN' n (by omega)) n N P hps, netB_congr (N := N') (P := P') ?_ (fun i hi => ?_) (fun i hi => by omega)⟩
    · have := netB_take hb (n + 1) (by omega)
      rw [show min (n + 1) n' = n + 1 by omega, show min (n + 1 - n') m' = 0 by omega] at this
      exact this
    · unfold addN
      split
      · exact (eN i (by assumption)).symm
      · rw [show i = n by omega]
  · obtain rfl : n = n' := by omega
    have hbn := chain_valid hc (by rintro rfl; simp at hk; omega)
    have em' : ls.length = n + m := hlen
    rw [em', lns_pipe (by omega)] at hat
    injection hat with hat
    have hq := hP' m (by omega)
    obtain ⟨f, t', e1, e2, f1, t1, _⟩ := pip_bd hq
    have hpl : pipeL N (P' m) = a := by
      rw [← hat]
      unfold pipeL
      rw [eN _ (by omega), eN _ (by omega)]
    subst hpl
    refine ⟨_, _, _, _, pipe_step hbn hq hps, netB_congr (N := N') (P := P') ?_ (fun i hi => (eN i hi).symm) (fun i hi => ?_)⟩
    · have := netB_take hb (n + (m + 1)) (by omega)
      rw [show min (n + (m + 1)) n = n by omega, show min (n + (m + 1) - n) m' = m + 1 by omega] at this
      exact this
    · unfold addP
      split
      · exact (eP i (by assumption)).symm
      · rw [show i = m by omega]
/-- a text whose reading stops is that of no valid network -/
theorem no_text {n : Nat} {N : Nat → Nod} {m : Nat} {P : Nat → Pip} {ls : List (List UInt8)} {rest : List UInt8} (hc : Chain n N m P ls) (hno : NoStep n N m P ls rest) {n' : Nat} {N' : Nat → Nod} {m' : Nat} {P' : Nat → Pip} (hb : netB n' N' m' P' = true) : netL n' N' m' P' ≠ glue ls ++ rest := by
  intro he
  rcases hno with ⟨h1, h2⟩ | ⟨a, t, ha, rfl, h⟩
  · rw [netL_glue] at he
    obtain ⟨C, g1, g2⟩ := glue_pre ls _ _ (lns_noline hb) (chain_noline hc) he
    rcases C with _ | ⟨c, C2⟩
    · have : rest = [] := by rw [← g2]; rfl
      rcases h2 with rfl | h2
      · have := congrArg List.length g1
        rw [lns_len] at this
        have hsz := net_sz hb
        simp at this
        omega
      · exact h2 this
    · exact h1 (by rw [← g2]; simp [glue])
  · have hm : ((sp 6 a).map (fun x => (⟨x.toArray⟩ : ByteArray))).map (·.data.toList) = sp 6 a := by
      rw [List.map_map]
      exact (List.map_congr_left (g := id) (fun x _ => by simp)).trans (List.map_id _)
    obtain ⟨n1, N1, m1, P1, q1, q2⟩ := next_line hc hb ha he hm
    rw [h _ hm _ _ _ _ q1] at q2
    cases q2
/-- each beginning of a chain's lines is a valid network's text -/
theorem chain_heads {n : Nat} {N : Nat → Nod} {m : Nat} {P : Nat → Pip} {ls : List (List UInt8)} (hc : Chain n N m P ls) {k : Nat} (h1 : 1 ≤ k) (hk : k ≤ ls.length) : ∃ n' m', netB n' N m' P = true ∧ netL n' N m' P = glue (ls.take k) := by
  have hb := chain_valid hc (by rintro rfl; simp at hk; omega)
  refine ⟨_, _, netB_take hb k h1, ?_⟩
  rw [netL_glue, ← lns_take, ← chain_lns hc]
end Go.Proofs.YtbenloeomjdkcaaGreatDoor.text

namespace Go.Proofs.YtbenloeomjdkcaaGreatDoor.text
open Go.RowKit Go.Proofs.YtbenloeomjdkcaaGreatDoor.mem
set_option linter.unusedVariables false
set_option maxRecDepth 100000

theorem ownS_at {B : Nat} {e : TypeId} {z : Nat} {w : World} {v : Value} {n : Nat} {c : Nat → Nat → Value} (h : RowE B e z w v n c) : ∃ g, OwnS w v n z c g ∧ B ≤ g ∧ (v.ownBlock = some g ∨ n = 0) := by
  obtain ⟨g, h1, h2⟩ := h.ownS
  rcases Nat.eq_zero_or_pos n with h0 | h0
  · subst h0
    obtain ⟨p, cap, e1, e2, e3, _⟩ := h1.ex
    exact ⟨B, ⟨p, cap, e1, e2, e3, .inl rfl⟩, Nat.le_refl _, .inr rfl⟩
  · obtain ⟨p, cap, e1, e2, e3, e4 | ⟨e4, e5⟩⟩ := h1.ex
    · omega
    · exact ⟨g, h1, by omega, .inl (by rw [e1, e4]; rfl)⟩
theorem net_of_rows {B n m cN cP : Nat} {w : World} {pN pP : Option Addr} {N : Nat → Nod} {P : Nat → Pip} (h : RN B w (.slice pN n cN) n (nodC N)) (g : RP B w (.slice pP m cP) m (pipC P)) : ∃ b1 b2, NetOwn w (.agg #[.slice pN n cN, .slice pP m cP]) n N m P b1 b2 ∧ B ≤ b1 ∧ B ≤ b2 := by
  obtain ⟨g1, a1, a2, a3⟩ := ownS_at h
  obtain ⟨g2, c1, c2, c3⟩ := ownS_at g
  refine ⟨g1, g2, ⟨_, _, rfl, a1, c1, ?_⟩, a2, c2⟩
  rcases a3 with a3 | a3
  · rcases c3 with c3 | c3
    · refine .inr (.inr fun e => ?_)
      exact rows_apart h g (by decide) g1 a3 (by rw [c3, e])
    · exact .inr (.inl c3)
  · exact .inl a3
/-- the answer: the network with the text, or none -/
def RNAns (B : Nat) (s : ByteArray) (e : Ending) (w' : World) : Prop :=
  (∃ v n N m P b1 b2, netB n N m P = true ∧ netL n N m P = s.data.toList ∧ e = .returned (.tuple #[v, .bool true]) ∧ NetOwn w' v n N m P b1 b2 ∧ B ≤ b1 ∧ B ≤ b2) ∨
  ((∀ n N m P, netB n N m P = true → netL n N m P ≠ s.data.toList) ∧ e = .returned (.tuple #[.agg #[.slice none 0 0, .slice none 0 0], .bool false]))
set_option maxHeartbeats 4000000 in
theorem readNetwork_any (w : World) (s : ByteArray) (hE : Env w) (hs : s.size ≤ 1048576) :
    Calls Tryz.prog 7 #[.string s] w fun e w' => RNAns w.heap.size s e w' ∧ Below w.heap.size w w' := by
  have hmf : ∀ (fn : Fn) (first cap : Array Value) (w : World), (Instr.makeFunc fn first cap).run Tryz.prog w = .ok (.func fn first cap) w := fun _ _ _ _ => rfl
  have R1 := boxed w (.slice none 0 0) (.slice none 0 0) 25
  have C1 := below_new w (.cells #[.slice none 0 0, .slice none 0 0] 25)
  have hz1 : (w.alloc (.cells #[.slice none 0 0, .slice none 0 0] 25)).heap.size = w.heap.size + 1 := by simp
  have P2 := Ob.new (w.alloc (.cells #[.slice none 0 0, .slice none 0 0] 25)) #[.slice none 0 0, .slice none 0 0, .int .i64 0, .slice none 0 0] 40 4 (parC (.slice none 0 0) (.slice none 0 0) 0 (.slice none 0 0)) rfl (fun k hk => by
    rcases (by omega : k = 0 ∨ k = 1 ∨ k = 2 ∨ k = 3) with rfl | rfl | rfl | rfl <;> rfl)
  have C2 := below_new (w.alloc (.cells #[.slice none 0 0, .slice none 0 0] 25)) (.cells #[.slice none 0 0, .slice none 0 0, .int .i64 0, .slice none 0 0] 40)
  have hz2 : ((w.alloc (.cells #[.slice none 0 0, .slice none 0 0] 25)).alloc (.cells #[.slice none 0 0, .slice none 0 0, .int .i64 0, .slice none 0 0] 40)).heap.size = w.heap.size + 2 := by simp
  have R2 := R1.below C2 (by rw [hz1]; omega)
  have CC := C1.trans (C2.mono (by rw [hz1]; omega))
  rw [hz1] at P2
  have HE := Lib.hid hE
  clear hE
  go_enter Tryz.func7, Tryz.ntmps7
  go_wp2_with fail
  generalize hW : (w.alloc (Obj.cells #[.slice none 0 0, .slice none 0 0] 25)).alloc (Obj.cells #[.slice none 0 0, .slice none 0 0, .int .i64 0, .slice none 0 0] 40) = w2 at *
  clear hW C1 C2 R1 hz1
  replace hz2 := Nat.le_antisymm_iff.1 hz2
  refine (acceptsText_any w w2 (w.heap.size + 1) (.slice none 0 0) s P2 HE.out CC (by omega) hs).mono ?_
  have HCC := Lib.hid CC
  have fin : ∀ (X : World) (v0 v1 : Value), Upd (· = w.heap.size + 1) w2 X → Below w.heap.size w ((X.setCell ⟨w.heap.size, 0, none⟩ v0).setCell ⟨w.heap.size, 1, none⟩ v1) := fun X v0 v1 u => by
    have hO := ((Only.refl w.heap.size X).setCell 0 v0).setCell 1 v1
    exact (HCC.out.trans (u.below (by omega) (by rintro q _ rfl; omega))).trans (hO.below (Nat.le_refl _))
  have FIN := Lib.hid fin
  clear CC P2 fin
  have hl2 := R2.lt
  rintro e w3 (⟨rfl, U3, n, N, m, P, ls, rest, d1, d2, d3, d4⟩ | ⟨n, N, m, P, ls, p1, c1, p2, c2, vW, d0, d1, d2, rfl, O3, N3, P3, U3⟩)
  · have R3 := R2.keep (U3.block w.heap.size hl2 (by omega))
    have r0 := R3.cell 0 (by omega)
    have r1 := R3.cell 1 (by omega)
    have f0 := R3.free 0
    have f1 := R3.free 1
    have HNO := Lib.hid (fun n' N' m' P' hb => (by rw [d2]; exact no_text d1 d4 hb) : ∀ n' N' m' P', netB n' N' m' P' = true → netL n' N' m' P' ≠ s.data.toList)
    have HF := Lib.hid (FIN.out w3 (.slice none 0 0) (.slice none 0 0) U3)
    clear R2 d1 d2 d3 d4 U3
    go_wp2_with fail
    refine bodyPost_ret (v := .tuple #[.agg #[.slice none 0 0, .slice none 0 0], .bool false]) (by simp [results, Tryz.results7, go_sem, r0, r1]) rfl ⟨.inr ⟨HNO.out, rfl⟩, HF.out⟩
  · have R3 := R2.keep (U3.block w.heap.size hl2 (by omega))
    have f0 := R3.free 0
    have f1 := R3.free 1
    have r0 := R3.cell 0 (by omega)
    have r1 := R3.cell 1 (by omega)
    have a0 : w3.cell? ⟨w.heap.size + 1, 0, none⟩ = some (.slice p1 n c1) := O3.cell 0 (by omega)
    have a1 : w3.cell? ⟨w.heap.size + 1, 1, none⟩ = some (.slice p2 m c2) := O3.cell 1 (by omega)
    have g0 := O3.free 0
    have g1 := O3.free 1
    obtain ⟨b1, b2, hN3, hb1, hb2⟩ := net_of_rows N3 P3
    have HV := Lib.hid (chain_valid d1 d0)
    have HT := Lib.hid ((chain_text d1).trans d2.symm)
    have HF := Lib.hid (FIN.out w3 (.slice p1 n c1) (.slice p2 m c2) U3)
    have HN := Lib.hid (hN3.upd (Upd.of_only (((Only.refl w.heap.size w3).setCell 0 (.slice p1 n c1)).setCell 1 (.slice p2 m c2))) (.inr (by omega)) (.inr (by omega)))
    clear R2 d0 d1 d2 U3 hN3 N3 P3
    go_wp2_with fail
    refine bodyPost_ret (v := .tuple #[.agg #[.slice p1 n c1, .slice p2 m c2], .bool true]) (by simp [results, Tryz.results7, go_sem, r0, r1]) rfl ⟨.inl ⟨_, n, N, m, P, b1, b2, HV.out, HT.out, rfl, HN.out, by omega, by omega⟩, HF.out⟩
end Go.Proofs.YtbenloeomjdkcaaGreatDoor.text

namespace Go.Proofs.YtbenloeomjdkcaaGreatDoor.text
open Go.RowKit Go.Proofs.YtbenloeomjdkcaaGreatDoor.mem
set_option linter.unusedVariables false

theorem glue_len : ∀ A : List (List UInt8), A.length ≤ (glue A).length
  | [] => Nat.zero_le _
  | a :: A => by
    have := glue_len A
    simp [glue] at this ⊢
    omega
theorem sp_glue : ∀ (A : List (List UInt8)) (k : Nat), (∀ a ∈ A, (10 : UInt8) ∉ a) → A.length ≤ k → nl.sp k (glue A) = A ++ [[]]
  | [], k, _, _ => nl.sp_end (by simp [glue])
  | a :: A, k, h, hk => by
    obtain ⟨j, rfl⟩ : ∃ j, k = j + 1 := ⟨k - 1, by simp at hk; omega⟩
    have e1 : glue (a :: A) = a ++ 10 :: glue A := by simp [glue]
    rw [e1, nl.sp_one (h a (List.mem_cons_self ..)), sp_glue A j (fun x hx => h x (List.mem_cons_of_mem _ hx)) (by simp at hk; omega)]
    rfl
/-- the lines of a valid network's text -/
theorem text_lines {n : Nat} {N : Nat → Nod} {m : Nat} {P : Nat → Pip} (hb : netB n N m P = true) {s : List UInt8} (he : netL n N m P = s) {bs : List ByteArray} (hbs : bs.map (·.data.toList) = nl.sp s.length s) : bs.map (·.data.toList) = lns n N m P ++ [[]] := by
  rw [hbs, ← he, netL_glue]
  exact sp_glue _ _ (lns_noline hb) (glue_len _)
theorem text_len {n : Nat} {N : Nat → Nod} {m : Nat} {P : Nat → Pip} (hb : netB n N m P = true) {s : List UInt8} (he : netL n N m P = s) {bs : List ByteArray} (hbs : bs.map (·.data.toList) = nl.sp s.length s) : bs.length = n + m + 1 := by
  have := congrArg List.length (text_lines hb he hbs)
  simpa [lns_len] using this
/-- a line of a valid network's text: that of a node, or that of a pipe -/
theorem text_at {n : Nat} {N : Nat → Nod} {m : Nat} {P : Nat → Pip} (hb : netB n N m P = true) {s : List UInt8} (he : netL n N m P = s) {bs : List ByteArray} (hbs : bs.map (·.data.toList) = nl.sp s.length s) {i : Nat} {x : ByteArray} (hi : i + 1 < bs.length) (hx : bs[i]? = some x) :
    (i < n ∧ nodB (N i) = true ∧ nodeL (N i) = x.data.toList ∧ sp x.data.toList.length x.data.toList = [wNode, (N i).s.data.toList, Lib.decDigits (N i).lo.toNat, Lib.decDigits (N i).hi.toNat]) ∨
    (n ≤ i ∧ i - n < m ∧ pipB n (P (i - n)) = true ∧ pipeL N (P (i - n)) = x.data.toList ∧ sp x.data.toList.length x.data.toList = [wPipe, (N (P (i - n)).f.toNat).s.data.toList, (N (P (i - n)).t.toNat).s.data.toList, Lib.decDigits (P (i - n)).k.toNat, Lib.decDigits (P (i - n)).v.toNat, Lib.decDigits (P (i - n)).l.toNat]) := by
  have hl := text_len hb he hbs
  have hm := text_lines hb he hbs
  have hat : (bs.map (·.data.toList))[i]? = some x.data.toList := by rw [List.getElem?_map, hx]; rfl
  rw [hm, List.getElem?_append_left (by rw [lns_len]; omega)] at hat
  obtain ⟨hN, hP⟩ := net_nodes hb
  by_cases hin : i < n
  · rw [lns_node hin] at hat
    injection hat with hat
    refine .inl ⟨hin, hN i hin, hat, ?_⟩
    obtain ⟨k, hk⟩ : ∃ k, x.data.toList.length = k + 3 := ⟨x.data.toList.length - 3, by
      have : 3 ≤ x.data.toList.length := by
        rw [← hat, nodeL_cat]
        simp [wNode] <;> omega
      omega⟩
    rw [hk, ← hat, sp_node (hN i hin) k]
  · obtain ⟨j, rfl⟩ : ∃ j, i = n + j := ⟨i - n, by omega⟩
    have hj : j < m := by omega
    rw [lns_pipe hj] at hat
    injection hat with hat
    have hq := hP j hj
    obtain ⟨f, t, e1, e2, f1, t1, _⟩ := pip_bd hq
    rw [show n + j - n = j by omega]
    refine .inr ⟨by omega, hj, hq, hat, ?_⟩
    obtain ⟨k, hk⟩ : ∃ k, x.data.toList.length = k + 5 := ⟨x.data.toList.length - 5, by
      have : 5 ≤ x.data.toList.length := by
        rw [← hat, pipeL_cat]
        simp [wPipe] <;> omega
      omega⟩
    rw [hk, ← hat, sp_pipe (hN _ (by omega)) (hN _ (by omega)) k]
/-- after i lines, k nodes and j pipes -/
structure Agr (s : List UInt8) (i k j : Nat) (N : Nat → Nod) (P : Nat → Pip) : Prop where
  kj : k ≤ i ∧ j ≤ i
  ag : ∀ n' N' m' P', netB n' N' m' P' = true → netL n' N' m' P' = s → k = min i n' ∧ j = i - n' ∧ (∀ x, x < k → N x = N' x) ∧ ∀ x, x < j → P x = P' x
theorem agr_0 (s : List UInt8) (N : Nat → Nod) (P : Nat → Pip) : Agr s 0 0 0 N P := ⟨⟨Nat.le_refl _, Nat.le_refl _⟩, fun n' N' m' P' _ _ => ⟨by omega, by omega, fun x hx => by omega, fun x hx => by omega⟩⟩
theorem agr_node {s : List UInt8} {i k j : Nat} {N : Nat → Nod} {P : Nat → Pip} (h : Agr s i k j N P) {bs : List ByteArray} (hbs : bs.map (·.data.toList) = nl.sp s.length s) {x : ByteArray} (hi : i + 1 < bs.length) (hx : bs[i]? = some x) {q : Nod} (hq : nodB q = true) (hl : nodeL q = x.data.toList) : Agr s (i + 1) (k + 1) j (addN N k q) P := by
  refine ⟨⟨by have := h.kj; omega, by have := h.kj; omega⟩, fun n' N' m' P' hb he => ?_⟩
  obtain ⟨a1, a2, a3, a4⟩ := h.ag n' N' m' P' hb he
  rcases text_at hb he hbs hi hx with ⟨b1, b2, b3, b4⟩ | ⟨b1, b2, b3, b4, b5⟩
  · refine ⟨by omega, by omega, fun y hy => ?_, a4⟩
    unfold addN
    split
    · exact a3 y (by assumption)
    · rw [show y = i by omega]
      exact node_uniq hq b2 (hl.trans b3.symm)
  · exfalso
    rw [← hl, nodeL_cat, pipeL_cat] at b4
    unfold wNode wPipe at b4
    simp at b4
theorem agr_pipe {s : List UInt8} {i k j : Nat} {N : Nat → Nod} {P : Nat → Pip} (h : Agr s i k j N P) {bs : List ByteArray} (hbs : bs.map (·.data.toList) = nl.sp s.length s) {x : ByteArray} (hi : i + 1 < bs.length) (hx : bs[i]? = some x) {x0 x1 x2 x3 x4 x5 : ByteArray} (hw : [x0, x1, x2, x3, x4, x5].map (·.data.toList) = sp x.data.toList.length x.data.toList) {d : Nat → Int} (hd : ∀ (c : Nat) y, [x3, x4, x5][c]? = some y → IsDec d c y) : Agr s (i + 1) k (j + 1) N (addP P j ⟨ixV N k x1, ixV N k x2, d 0, d 1, d 2⟩) := by
  refine ⟨⟨by have := h.kj; omega, by have := h.kj; omega⟩, fun n' N' m' P' hb he => ?_⟩
  obtain ⟨a1, a2, a3, a4⟩ := h.ag n' N' m' P' hb he
  rcases text_at hb he hbs hi hx with ⟨b1, b2, b3, b4⟩ | ⟨b1, b2, b3, b4, b5⟩
  · rw [b4] at hw
    simp at hw
  · rw [b5] at hw
    simp only [List.map_cons, List.map_nil, List.cons.injEq, and_true] at hw
    obtain ⟨_, w1, w2, w3, w4, w5⟩ := hw
    obtain ⟨m0, d0, _, g0⟩ := hd 0 x3 rfl
    obtain ⟨m1, d1, _, g1⟩ := hd 1 x4 rfl
    obtain ⟨m2, d2, _, g2⟩ := hd 2 x5 rfl
    have h0 := dec_inj (g0.trans w3)
    have h1 := dec_inj (g1.trans w4)
    have h2 := dec_inj (g2.trans w5)
    obtain ⟨f, t, e1, e2, f1, t1, k0, v0, l0⟩ := pip_bd b3
    obtain rfl : k = n' := by omega
    have hdist := nodes_of hb
    have ix : ∀ (y : ByteArray) (c : Nat), c < k → y.data.toList = (N' c).s.data.toList → ixV N k y = c := fun y c hc hy => by
      have ey : y = (N' c).s := ByteArray.ext (by rw [← Array.toList_inj]; exact hy)
      have hf : nnF N k y = some c := nnF_some hc (nnP_iff.2 (by rw [a3 c hc, ey])) (fun z hz => by
        cases hp : nnP N y z
        · rfl
        · exact absurd ((congrArg Nod.s (a3 z (by omega))).symm.trans ((nnP_iff.1 hp).trans ey)) (hdist z c hz hc))
      unfold ixV
      rw [hf]
    refine ⟨by omega, by omega, a3, fun y hy => ?_⟩
    unfold addP
    split
    · exact a4 y (by assumption)
    · rw [show y = i - k by omega]
      rw [ix x1 f f1 (by rw [w1, e1, Int.toNat_natCast]), ix x2 t t1 (by rw [w2, e2, Int.toNat_natCast]), d0, d1, d2, h0, h1, h2]
      generalize P' (i - k) = q at *
      obtain ⟨qf, qt, qk, qv, ql⟩ := q
      simp only [Pip.mk.injEq] at *
      omega
/-- no valid network has the text: a line with another number of words -/
theorem agr_words {s : List UInt8} {i : Nat} {bs : List ByteArray} (hbs : bs.map (·.data.toList) = nl.sp s.length s) {x : ByteArray} (hi : i + 1 < bs.length) (hx : bs[i]? = some x) {ws : List ByteArray} (hw : ws.map (·.data.toList) = sp x.data.toList.length x.data.toList) (h4 : ws.length ≠ 4) (h6 : ws.length ≠ 6) : ∀ n' N' m' P', netB n' N' m' P' = true → netL n' N' m' P' ≠ s := by
  intro n' N' m' P' hb he
  have hl := congrArg List.length hw
  rw [List.length_map] at hl
  rcases text_at hb he hbs hi hx with ⟨b1, b2, b3, b4⟩ | ⟨b1, b2, b3, b4, b5⟩
  · rw [b4] at hl
    exact h4 hl
  · rw [b5] at hl
    exact h6 hl
/-- four words, and no node has the line -/
theorem agr_nonode {s : List UInt8} {i : Nat} {bs : List ByteArray} (hbs : bs.map (·.data.toList) = nl.sp s.length s) {x : ByteArray} (hi : i + 1 < bs.length) (hx : bs[i]? = some x) {ws : List ByteArray} (hw : ws.map (·.data.toList) = sp x.data.toList.length x.data.toList) (h4 : ws.length = 4) (hno : ∀ q, nodB q = true → nodeL q ≠ x.data.toList) : ∀ n' N' m' P', netB n' N' m' P' = true → netL n' N' m' P' ≠ s := by
  intro n' N' m' P' hb he
  have hl := congrArg List.length hw
  rw [List.length_map] at hl
  rcases text_at hb he hbs hi hx with ⟨b1, b2, b3, b4⟩ | ⟨b1, b2, b3, b4, b5⟩
  · exact hno _ b2 b3
  · rw [b5] at hl
    simp at hl
    omega
/-- six words, and one of the last three is no number's -/
theorem agr_nonum {s : List UInt8} {i : Nat} {bs : List ByteArray} (hbs : bs.map (·.data.toList) = nl.sp s.length s) {x : ByteArray} (hi : i + 1 < bs.length) (hx : bs[i]? = some x) {x0 x1 x2 x3 x4 x5 : ByteArray} (hw : [x0, x1, x2, x3, x4, x5].map (·.data.toList) = sp x.data.toList.length x.data.toList) {j : Nat} {y : ByteArray} (hj : [x3, x4, x5][j]? = some y) (hno : ∀ m, m < 1000000000000000000 → Lib.decDigits m ≠ y.data.toList) : ∀ n' N' m' P', netB n' N' m' P' = true → netL n' N' m' P' ≠ s := by
  intro n' N' m' P' hb he
  rcases text_at hb he hbs hi hx with ⟨b1, b2, b3, b4⟩ | ⟨b1, b2, b3, b4, b5⟩
  · rw [b4] at hw
    simp at hw
  · rw [b5] at hw
    simp only [List.map_cons, List.map_nil, List.cons.injEq, and_true] at hw
    obtain ⟨_, w1, w2, w3, w4, w5⟩ := hw
    unfold pipB at b3
    simp only [Bool.and_eq_true] at b3
    have hk := inR_iff.1 b3.1.1.2
    have hv := inR_iff.1 b3.1.2
    have hl := inR_iff.1 b3.2
    rcases j with _ | _ | _ | j
    · simp at hj
      subst hj
      exact hno _ (by omega) w3.symm
    · simp at hj
      subst hj
      exact hno _ (by omega) w4.symm
    · simp at hj
      subst hj
      exact hno _ (by omega) w5.symm
    · simp at hj
end Go.Proofs.YtbenloeomjdkcaaGreatDoor.text

namespace Go.Proofs.YtbenloeomjdkcaaGreatDoor.text
open Go.RowKit Go.Proofs.YtbenloeomjdkcaaGreatDoor.mem
set_option linter.unusedVariables false

theorem sp_glue_app : ∀ (A : List (List UInt8)) (r : List UInt8) (k : Nat), (∀ a ∈ A, (10 : UInt8) ∉ a) → nl.sp (k + A.length) (glue A ++ r) = A ++ nl.sp k r
  | [], r, k, _ => rfl
  | a :: A, r, k, h => by
    have e1 : glue (a :: A) ++ r = a ++ 10 :: (glue A ++ r) := by simp [glue]
    rw [e1, show k + (a :: A).length = (k + A.length) + 1 by simp; omega, nl.sp_one (h a (List.mem_cons_self ..)), sp_glue_app A r k (fun x hx => h x (List.mem_cons_of_mem _ hx))]
    rfl
theorem lines_of (A : List (List UInt8)) (r : List UInt8) (h : ∀ a ∈ A, (10 : UInt8) ∉ a) : nl.sp (glue A ++ r).length (glue A ++ r) = A ++ nl.sp r.length r := by
  have hl := glue_len A
  rw [show (glue A ++ r).length = ((glue A).length - A.length + r.length) + A.length by rw [List.length_append]; omega, sp_glue_app A r _ h, nl.sp_big _ r.length r (by omega) (Nat.le_refl _)]
/-- the first k lines are a valid network's text -/
def okHead (L : List (List UInt8)) (k : Nat) : Prop := ∃ n N m P, netB n N m P = true ∧ netL n N m P = glue (L.take k)
/-- the model's answer -/
def FWS (s : List UInt8) (x : Int) : Prop :=
  (s = [] ∧ x = 0) ∨ (s ≠ [] ∧ ((∃ i : Nat, x = i ∧ i + 1 < (nl.sp s.length s).length ∧ (∀ j, j < i → okHead (nl.sp s.length s) (j + 1)) ∧ ¬ okHead (nl.sp s.length s) (i + 1)) ∨
    ((∀ j, j + 1 < (nl.sp s.length s).length → okHead (nl.sp s.length s) (j + 1)) ∧ (((nl.sp s.length s).getLast? ≠ some [] ∧ x = (nl.sp s.length s).length - 1) ∨ ((nl.sp s.length s).getLast? = some [] ∧ x = -1)))))
theorem ok_of_chain {n : Nat} {N : Nat → Nod} {m : Nat} {P : Nat → Pip} {ls : List (List UInt8)} (hc : Chain n N m P ls) (R : List (List UInt8)) {j : Nat} (hj : j < ls.length) : okHead (ls ++ R) (j + 1) := by
  obtain ⟨n', m', h1, h2⟩ := chain_heads hc (k := j + 1) (by omega) (by omega)
  exact ⟨n', N, m', P, h1, by rw [h2, List.take_append_of_le_length (by omega)]⟩
theorem fw_eq {s : List UInt8} {x y : Int} (h : FWAns s x) (g : FWS s y) : x = y := by
  rcases h with ⟨rfl, n, N, m, P, ls, hne, hc, rfl⟩ | ⟨n, N, m, P, ls, rest, rfl, hc, rfl, hno⟩
  · have hL : nl.sp (glue ls).length (glue ls) = ls ++ [[]] := by
      have := lines_of ls [] (chain_noline hc)
      simpa [nl.sp] using this
    unfold FWS at g
    rw [hL] at g
    rcases g with ⟨h0, _⟩ | ⟨_, ⟨i, rfl, hi, _, hbad⟩ | ⟨_, ⟨hl, _⟩ | ⟨_, rfl⟩⟩⟩
    · exact absurd ((chain_text hc).trans h0) (by
        intro e
        have := glue_len ls
        rw [h0] at this
        simp at this
        exact hne this)
    · exact absurd (ok_of_chain hc [[]] (by simpa using hi)) hbad
    · simp at hl
    · rfl
  · have hL := lines_of ls rest (chain_noline hc)
    unfold FWS at g
    rw [hL] at g
    rcases hno with ⟨h1, h2⟩ | ⟨a, t, ha, rfl, h⟩
    · rw [nl.sp_end h1] at g
      rcases g with ⟨h0, rfl⟩ | ⟨hs0, ⟨i, rfl, hi, _, hbad⟩ | ⟨_, ⟨hl, rfl⟩ | ⟨hl, rfl⟩⟩⟩
      · have := glue_len ls
        rw [List.append_eq_nil_iff] at h0
        rw [h0.1] at this
        simp at this
        simp [this]
      · exact absurd (ok_of_chain hc [rest] (by simpa using hi)) hbad
      · simp
      · exfalso
        simp at hl
        rcases h2 with rfl | h2
        · exact hs0 (by rw [hl]; rfl)
        · exact h2 hl
    · have hbad : ¬ okHead (ls ++ nl.sp (a ++ 10 :: t).length (a ++ 10 :: t)) (ls.length + 1) := by
        rintro ⟨n', N', m', P', hb, he⟩
        have hsp : nl.sp (a ++ 10 :: t).length (a ++ 10 :: t) = a :: nl.sp (a.length + t.length) t := by
          rw [show (a ++ 10 :: t).length = (a.length + t.length) + 1 by simp; omega, nl.sp_one ha]
        rw [hsp] at he
        have e2 : (ls ++ a :: nl.sp (a.length + t.length) t).take (ls.length + 1) = ls ++ [a] := by
          rw [List.take_append, List.take_of_length_le (by omega)]
          simp
        rw [e2, glue_app, glue_one] at he
        exact no_text hc (.inr ⟨a, [], ha, rfl, h⟩) hb he
      have hlen : ls.length + 1 < (ls ++ nl.sp (a ++ 10 :: t).length (a ++ 10 :: t)).length := by
        rw [show (a ++ 10 :: t).length = (a.length + t.length) + 1 by simp; omega, nl.sp_one ha]
        have := List.length_pos_iff.2 (nl.sp_ne (a.length + t.length) t)
        simp
        omega
      rcases g with ⟨h0, rfl⟩ | ⟨hs0, ⟨i, rfl, hi, hok, hb⟩ | ⟨hok, _⟩⟩
      · simp at h0
      · rcases Nat.lt_trichotomy i ls.length with q | q | q
        · exact absurd (ok_of_chain hc _ q) hb
        · rw [q]
        · exact absurd (hok _ q) hbad
      · exact absurd (hok _ hlen) hbad
end Go.Proofs.YtbenloeomjdkcaaGreatDoor.text

namespace Go.Proofs.YtbenloeomjdkcaaGreatDoor.text
open Go.RowKit Go.Proofs.YtbenloeomjdkcaaGreatDoor.mem
set_option linter.unusedVariables false
set_option maxRecDepth 100000

/-- what lies in memory while the text is read -/
structure Rd (w : World) (g B gw : Nat) (bs : List ByteArray) (nv pv : Value) (kn kp : Nat) (N : Nat → Nod) (P : Nat → Pip) (wr : World) : Prop where
  rn : RN B wr nv kn (nodC N)
  rp : RP B wr pv kp (pipC P)
  ra : Ob wr w.heap.size 2 (bx (.slice none 0 0) (.slice none 0 0))
  ro : Ob wr g 2 (bx (.slice none 0 0) (.slice none 0 0))
  wd : ∀ (j : Nat) x, bs[j]? = some x → wr.cell? ⟨gw, j, none⟩ = some (.string x)
  bl : Below w.heap.size w wr
  sz : w.heap.size < B ∧ g < B ∧ gw < B ∧ B ≤ wr.heap.size
theorem Rd.next {w : World} {g B gw : Nat} {bs : List ByteArray} {nv pv : Value} {kn kp : Nat} {N : Nat → Nod} {P : Nat → Pip} {wr w' : World} (h : Rd w g B gw bs nv pv kn kp N P wr) (b : Below wr.heap.size wr w') : Rd w g B gw bs nv pv kn kp N P w' := by
  have hz := h.sz
  have hs := b.size
  exact ⟨RowE.next h.rn b, RowE.next h.rp b, h.ra.below b (by omega), h.ro.below b (by omega), fun j x hx => (b.cell (p := ⟨gw, j, none⟩) (show gw < wr.heap.size by omega)).trans (h.wd j x hx), h.bl.trans (b.mono (by omega)), ⟨hz.1, hz.2.1, hz.2.2.1, by omega⟩⟩
theorem Rd.node {w : World} {g B gw : Nat} {bs : List ByteArray} {nv pv : Value} {kn kp : Nat} {N : Nat → Nod} {P : Nat → Pip} {wr w' : World} (h : Rd w g B gw bs nv pv kn kp N P wr) {v' : Value} {kn' : Nat} {N' : Nat → Nod} (hr : RN B w' v' kn' (nodC N')) (u : Upd (fun x => some x = nv.ownBlock) wr w') : Rd w g B gw bs v' pv kn' kp N' P w' := by
  have hz := h.sz
  have hs := u.size
  have hx : ∀ x, x < B → ¬ some x = nv.ownBlock := fun x hx e => by have := (h.rn.own.lt x e.symm).1; omega
  exact ⟨hr, h.rp.keep u (rows_apart h.rp h.rn (by decide)), h.ra.keep (u.block _ (by omega) (hx _ hz.1)), h.ro.keep (u.block _ (by omega) (hx _ hz.2.1)), fun j x hj => (World.cell?_of_block (u.block gw (by omega) (hx _ hz.2.2.1))).trans (h.wd j x hj), h.bl.trans (u.below (by omega) (fun x _ e => by have := (h.rn.own.lt x e.symm).1; omega)), ⟨hz.1, hz.2.1, hz.2.2.1, by omega⟩⟩
theorem Rd.pipe {w : World} {g B gw : Nat} {bs : List ByteArray} {nv pv : Value} {kn kp : Nat} {N : Nat → Nod} {P : Nat → Pip} {wr w' : World} (h : Rd w g B gw bs nv pv kn kp N P wr) {v' : Value} {kp' : Nat} {P' : Nat → Pip} (hr : RP B w' v' kp' (pipC P')) (u : Upd (fun x => some x = pv.ownBlock) wr w') : Rd w g B gw bs nv v' kn kp' N P' w' := by
  have hz := h.sz
  have hs := u.size
  have hx : ∀ x, x < B → ¬ some x = pv.ownBlock := fun x hx e => by have := (h.rp.own.lt x e.symm).1; omega
  exact ⟨h.rn.keep u (rows_apart h.rn h.rp (by decide)), hr, h.ra.keep (u.block _ (by omega) (hx _ hz.1)), h.ro.keep (u.block _ (by omega) (hx _ hz.2.1)), fun j x hj => (World.cell?_of_block (u.block gw (by omega) (hx _ hz.2.2.1))).trans (h.wd j x hj), h.bl.trans (u.below (by omega) (fun x _ e => by have := (h.rp.own.lt x e.symm).1; omega)), ⟨hz.1, hz.2.1, hz.2.2.1, by omega⟩⟩
theorem Rd.fin {w : World} {g B gw : Nat} {bs : List ByteArray} {nv pv : Value} {kn kp : Nat} {N : Nat → Nod} {P : Nat → Pip} {wr : World} (h : Rd w g B gw bs nv pv kn kp N P wr) (v0 v1 : Value) : Below w.heap.size w ((wr.setCell ⟨w.heap.size, 0, none⟩ v0).setCell ⟨w.heap.size, 1, none⟩ v1) :=
  h.bl.trans ((((Only.refl w.heap.size wr).setCell 0 v0).setCell 1 v1).below (Nat.le_refl _))
theorem rows_new {e : TypeId} {z : Nat} (w : World) (c : Nat → Nat → Value) : RowE w.heap.size e z (w.alloc (.cells #[] e)) (.slice (some ⟨w.heap.size, 0, none⟩) 0 0) 0 c := by
  refine ⟨by simp [flatL], .inr ⟨w.heap.size, 0, _, rfl, Nat.le_refl _, heap_alloc_new w _, Nat.le_refl _, by unfold maxLen; omega, by simp, ?_⟩⟩
  simp [flatL]
theorem rows_mono {B B' : Nat} {e : TypeId} {z : Nat} {w : World} {v : Value} {n : Nat} {c : Nat → Nat → Value} (h : RowE B e z w v n c) (hB : B' ≤ B) : RowE B' e z w v n c := by
  refine ⟨h.own.1, ?_⟩
  rcases h.own.2 with h1 | ⟨g, cap, cur, rfl, h2, h3⟩
  · exact .inl h1
  · exact .inr ⟨g, cap, cur, rfl, Nat.le_trans hB h2, h3⟩
theorem nlsp_len : ∀ (k : Nat) (s : List UInt8), (nl.sp k s).length ≤ s.length + 1
  | 0, s => by simp [nl.sp]
  | k + 1, s => by
    by_cases h : (10 : UInt8) ∈ s
    · obtain ⟨a, t, h1, rfl⟩ := nl.cut_ex h
      have := nlsp_len k t
      rw [nl.sp_one h1]
      simp only [List.length_cons, List.length_append]
      omega
    · rw [nl.sp_end h]
      simp
theorem Rd.r0 {w : World} {g B gw : Nat} {bs : List ByteArray} {nv pv : Value} {kn kp : Nat} {N : Nat → Nod} {P : Nat → Pip} {wr : World} (h : Rd w g B gw bs nv pv kn kp N P wr) : wr.cell? ⟨w.heap.size, 0, none⟩ = some (.slice none 0 0) := h.ra.cell 0 (by omega)
theorem Rd.r1 {w : World} {g B gw : Nat} {bs : List ByteArray} {nv pv : Value} {kn kp : Nat} {N : Nat → Nod} {P : Nat → Pip} {wr : World} (h : Rd w g B gw bs nv pv kn kp N P wr) : wr.cell? ⟨w.heap.size, 1, none⟩ = some (.slice none 0 0) := h.ra.cell 1 (by omega)
theorem Rd.t0 {w : World} {g B gw : Nat} {bs : List ByteArray} {nv pv : Value} {kn kp : Nat} {N : Nat → Nod} {P : Nat → Pip} {wr : World} (h : Rd w g B gw bs nv pv kn kp N P wr) : wr.cell? ⟨g, 0, none⟩ = some (.slice none 0 0) := h.ro.cell 0 (by omega)
theorem Rd.t1 {w : World} {g B gw : Nat} {bs : List ByteArray} {nv pv : Value} {kn kp : Nat} {N : Nat → Nod} {P : Nat → Pip} {wr : World} (h : Rd w g B gw bs nv pv kn kp N P wr) : wr.cell? ⟨g, 1, none⟩ = some (.slice none 0 0) := h.ro.cell 1 (by omega)
theorem appNod2 (B : Nat) (W : World) (v : Value) (n : Nat) (N : Nat → Nod) (q : Nod) (h : RN B W v n (nodC N)) (hB : B ≤ W.heap.size) (hn : n ≤ 2000000) :
    ∃ v' w', Sem.run Tryz.prog (Builtin.append_ #[22, 22] 22 #[v, .slice (some ⟨W.heap.size, 0, none⟩) 1 1]) (W.alloc (.cells #[.string q.s, .int .i64 q.lo, .int .i64 q.hi] 55)) = .ok v' w' ∧ RN B w' v' (n + 1) (nodC (addN N n q)) ∧ Upd (fun x => some x = v.ownBlock) W w' :=
  appOne2 Tryz.underlying22 info_make_node (by omega) rfl (by omega) B W v n _ _ h hB [.string q.s, .int .i64 q.lo, .int .i64 q.hi] rfl (by intro u hu; simp at hu; rcases hu with rfl | rfl | rfl <;> rfl)
    (fun i j hi hj => by rcases (by omega : j = 0 ∨ j = 1 ∨ j = 2) with rfl | rfl | rfl <;> simp [nodC, addN, hi])
    (fun j hj => by rcases (by omega : j = 0 ∨ j = 1 ∨ j = 2) with rfl | rfl | rfl <;> simp [nodC, addN]) hn
theorem appPip2 (B : Nat) (W : World) (v : Value) (n : Nat) (P : Nat → Pip) (q : Pip) (h : RP B W v n (pipC P)) (hB : B ≤ W.heap.size) (hn : n ≤ 2000000) :
    ∃ v' w', Sem.run Tryz.prog (Builtin.append_ #[23, 23] 23 #[v, .slice (some ⟨W.heap.size, 0, none⟩) 1 1]) (W.alloc (.cells #[.int .i64 q.f, .int .i64 q.t, .int .i64 q.k, .int .i64 q.v, .int .i64 q.l] 62)) = .ok v' w' ∧ RP B w' v' (n + 1) (pipC (addP P n q)) ∧ Upd (fun x => some x = v.ownBlock) W w' :=
  appOne2 Tryz.underlying23 info_make_pipe (by omega) rfl (by omega) B W v n _ _ h hB [.int .i64 q.f, .int .i64 q.t, .int .i64 q.k, .int .i64 q.v, .int .i64 q.l] rfl (by intro u hu; simp at hu; rcases hu with rfl | rfl | rfl | rfl | rfl <;> rfl)
    (fun i j hi hj => by rcases (by omega : j = 0 ∨ j = 1 ∨ j = 2 ∨ j = 3 ∨ j = 4) with rfl | rfl | rfl | rfl | rfl <;> simp [pipC, addP, hi])
    (fun j hj => by rcases (by omega : j = 0 ∨ j = 1 ∨ j = 2 ∨ j = 3 ∨ j = 4) with rfl | rfl | rfl | rfl | rfl <;> simp [pipC, addP]) hn
theorem net_rows2 {B n m cN cP a : Nat} {w : World} {pN pP : Option Addr} {N : Nat → Nod} {P : Nat → Pip} (h : RN B w (.slice pN n cN) n (nodC N)) (g : RP B w (.slice pP m cP) m (pipC P)) (ha : a ≤ B) : NetAt w (.agg #[.slice pN n cN, .slice pP m cP]) n N m P a w.heap.size := by
  obtain ⟨g1, s1, h1, _⟩ := ownS_at h
  obtain ⟨g2, s2, h2, _⟩ := ownS_at g
  exact ⟨_, _, rfl, s1.cs (.inl (by omega)) (Nat.le_refl _), s2.cs (.inl (by omega)) (Nat.le_refl _)⟩
def RdAns (a : Nat) (s : List UInt8) (e : Ending) (w' : World) : Prop :=
  (e = .returned (.tuple #[.agg #[.slice none 0 0, .slice none 0 0], .bool false]) ∧ ∀ n' N' m' P', netB n' N' m' P' = true → netL n' N' m' P' ≠ s) ∨
  ∃ v n N m P, e = .returned (.tuple #[v, .bool true]) ∧ NetAt w' v n N m P a w'.heap.size ∧ (∀ i, i < n → (N i).s.size ≤ 9223372036854775807) ∧ ∀ n' N' m' P', netB n' N' m' P' = true → netL n' N' m' P' = s → n = n' ∧ m = m' ∧ (∀ i, i < n → N i = N' i) ∧ ∀ i, i < m → P i = P' i
set_option maxHeartbeats 8000000 in
theorem l03Read_any (w : World) (s : ByteArray) (hs : s.size ≤ 1048576) :
    Calls Tryz.prog 19 #[.string s] w fun e w' => RdAns w.heap.size s.data.toList e w' ∧ Below w.heap.size w w' := by
  have R1 := boxed w (.slice none 0 0) (.slice none 0 0) 25
  have C1 := below_new w (.cells #[.slice none 0 0, .slice none 0 0] 25)
  have hz1 : (w.alloc (.cells #[.slice none 0 0, .slice none 0 0] 25)).heap.size = w.heap.size + 1 := by simp
  go_enter Tryz.func19, Tryz.ntmps19
  go_wp2_with fail
  generalize hW : w.alloc (Obj.cells #[.slice none 0 0, .slice none 0 0] 25) = w1 at *
  clear hW
  replace hz1 := Nat.le_antisymm_iff.1 hz1
  refine (nl.split_any w1 s hs).mono ?_
  rintro e w2 ⟨v, bs, rfl, W2, hbs, b2⟩
  have hl1 := R1.lt
  have hs2 := b2.size
  have hbl : bs.length ≤ 1048577 := by
    have h1 := congrArg List.length hbs
    rw [List.length_map] at h1
    have h2 := nlsp_len s.data.toList.length s.data.toList
    have h3 : s.data.toList.length = s.size := Array.length_toList
    omega
  have hb0 : 0 < bs.length := by
    have h1 := congrArg List.length hbs
    rw [List.length_map] at h1
    have h2 : (nl.sp s.data.toList.length s.data.toList).length ≠ 0 := fun e => nl.sp_ne _ _ (List.length_eq_zero_iff.1 e)
    omega
  have hxs : ∀ y ∈ bs, y.size ≤ 1048576 := fun y hy => by
    have h1 : y.data.toList ∈ nl.sp s.data.toList.length s.data.toList := by rw [← hbs]; exact List.mem_map_of_mem hy
    have h2 := nl.sp_size _ _ _ h1
    have e1 : y.data.toList.length = y.size := Array.length_toList
    have e2 : s.data.toList.length = s.size := Array.length_toList
    omega
  obtain ⟨gw, cw, rfl, hgw, hcw, hcells⟩ := words_cells W2 hb0
  have G3 := boxed w2 (.slice none 0 0) (.slice none 0 0) 25
  have B3 := below_new w2 (.cells #[.slice none 0 0, .slice none 0 0] 25)
  have hz3 : (w2.alloc (.cells #[.slice none 0 0, .slice none 0 0] 25)).heap.size = w2.heap.size + 1 := by simp
  have HXS := Lib.hid hxs
  have HBS := Lib.hid hbs
  clear hxs hbs
  have D0 : ∃ w3, w3 = ((w2.alloc (.cells #[.slice none 0 0, .slice none 0 0] 25)).alloc (.cells #[] 55)).alloc (.cells #[] 62) ∧ Rd w w2.heap.size (w2.heap.size + 1) gw bs (.slice (some ⟨w2.heap.size + 1, 0, none⟩) 0 0) (.slice (some ⟨w2.heap.size + 1 + 1, 0, none⟩) 0 0) 0 0 (fun _ => ⟨⟨#[]⟩, 0, 0⟩) (fun _ => ⟨0, 0, 0, 0, 0⟩) w3 := by
    refine ⟨_, rfl, ?_⟩
    generalize w2.alloc (.cells #[.slice none 0 0, .slice none 0 0] 25) = w3 at *
    have r1 := rows_new (e := 55) (z := 3) w3 (nodC (fun _ => ⟨⟨#[]⟩, 0, 0⟩))
    have b4 := below_new w3 (.cells #[] 55)
    have z4 : (w3.alloc (.cells #[] 55)).heap.size = w3.heap.size + 1 := by simp
    generalize w3.alloc (.cells #[] 55) = w4 at *
    have r2 := rows_new (e := 62) (z := 5) w4 (pipC (fun _ => ⟨0, 0, 0, 0, 0⟩))
    have b5 := below_new w4 (.cells #[] 62)
    have z5 : (w4.alloc (.cells #[] 62)).heap.size = w4.heap.size + 1 := by simp
    generalize w4.alloc (.cells #[] 62) = w5 at *
    rw [z4, hz3] at r2
    rw [hz3] at r1
    have b25 : Below w2.heap.size w2 w5 := (B3.trans (b4.mono (by omega))).trans (b5.mono (by omega))
    refine ⟨RowE.next r1 b5, rows_mono r2 (by omega), (R1.below b2 hl1).below b25 (by omega), (G3.below b4 (by omega)).below b5 (by omega), fun j x hx => ?_, (C1.trans (b2.mono (by omega))).trans (b25.mono (by omega)), by omega, by omega, by omega, by omega⟩
    have := hcells j x hx
    rw [Nat.zero_add] at this
    exact (b25.cell (p := ⟨gw, j, none⟩) hgw).trans this
  clear hcells W2 G3 B3 R1 C1 b2 hl1
  go_wp2_with fail
  obtain ⟨w3, e3, D0⟩ := D0
  rw [← e3]
  clear e3 hz3
  go_loopw [8, 6, 7, 9, 10, 11, 12, 13] (fun i nv pv _ _ _ _ _ wr => ∃ (k : Nat) (nv' pv' : Value) (kn kp : Nat) (N : Nat → Nod) (P : Nat → Pip), i = .int .i64 k ∧ nv' = nv ∧ pv' = pv ∧ k + 1 ≤ bs.length ∧ Rd w w2.heap.size (w2.heap.size + 1) gw bs nv' pv' kn kp N P wr ∧ Agr s.data.toList k kn kp N P ∧ ∀ i, i < kn → (N i).s.size ≤ 9223372036854775807) (fun i _ _ _ _ _ _ _ _ => bs.length - (intOf i).toNat)
  case atStart => exact ⟨0, _, _, 0, 0, _, _, rfl, rfl, rfl, by omega, D0, agr_0 _ _ _, fun i hi => by omega⟩
  case round =>
    obtain ⟨k, nv, pv, kn, kp, N, P, rfl, rfl, rfl, hk, hR, hA, hsz⟩ := hrel
    obtain ⟨pn, cn, rfl⟩ := RowE.shape hR.rn
    obtain ⟨pp, cp, rfl⟩ := RowE.shape hR.rp
    have HR := Lib.hid hR
    have HA := Lib.hid hA
    have HSZ := Lib.hid hsz
    have hz := hR.sz
    have hkj := hA.kj
    clear D0 hR hA hsz
    by_cases hlt : k + 1 < bs.length
    · obtain ⟨x, hx⟩ : ∃ x, bs[k]? = some x := ⟨bs[k], List.getElem?_eq_getElem (by omega)⟩
      have cx : wr.cell? ⟨gw, k, none⟩ = some (.string x) := HR.out.wd k x hx
      have hxz := HXS.out x (List.mem_of_getElem? hx)
      have HX := Lib.hid hx
      have hkI : (k : Int) + 1 < bs.length := by omega
      have hkJ : (k : Int) < bs.length := by omega
      clear hx
      go_wp2_with fail
      refine (split_any wr x hxz).mono ?_
      rintro e w4 ⟨v9, ws, rfl, W4, hws, b4⟩
      have HR4 := Lib.hid (HR.out.next b4)
      have HWS := Lib.hid hws
      have cx4 : w4.cell? ⟨gw, k, none⟩ = some (.string x) := HR4.out.wd k x HX.out
      have hz4 := HR4.out.sz
      clear b4 hws cx
      obtain ⟨p9, c9, rfl⟩ := RowE.shape W4
      by_cases h4 : ws.length = 4
      · have h4b : ((ws.length : Int) == 4) = true := by simp; omega
        have H4 := Lib.hid h4
        clear h4 W4
        go_wp2_with fail
        refine (sReadNodeLine_any w4 x hxz).mono ?_
        rintro e w5 ⟨⟨q, hq, hl, rfl⟩ | ⟨hno, rfl⟩, b5⟩
        · have HR5 := HR4.out.next b5
          have V6 := boxedN w5 q 55
          have HR6 := HR5.next (below_new w5 (.cells #[.string q.s, .int .i64 q.lo, .int .i64 q.hi] 55))
          have z6 : (w5.alloc (.cells #[.string q.s, .int .i64 q.lo, .int .i64 q.hi] 55)).heap.size = w5.heap.size + 1 := by simp
          obtain ⟨v7, w7, hr, hrow, hup⟩ := appNod2 (w2.heap.size + 1) (w5.alloc (.cells #[.string q.s, .int .i64 q.lo, .int .i64 q.hi] 55)) _ kn N q HR6.rn HR6.sz.2.2.2 (by omega)
          rw [z6] at hr
          have q0 := V6.cell 0 (by omega)
          have q1 := V6.cell 1 (by omega)
          have q2 := V6.cell 2 (by omega)
          have HN7 := Lib.hid (HR6.node hrow hup)
          have HAG := Lib.hid (agr_node HA.out HBS.out hlt HX.out hq hl)
          have hq8 := (nod_bd hq).1
          unfold nodeVS
          clear V6 HR5 HR6 hrow hup b5 hq hl z6
          go_wp2_with (at_builtin; refine mem.wpList_appT hr rfl _ _ rfl rfl rfl rfl ?_)
          go_roundw
          case rel => exact ⟨k + 1, v7, _, kn + 1, kp, _, P, by go_num, rfl, rfl, by omega, HN7.out, HAG.out, fun i hi => by
            unfold addN
            split
            · exact HSZ.out i (by assumption)
            · omega⟩
          case measure => simp [intOf]; omega
        · have HNO := Lib.hid (agr_nonode HBS.out hlt HX.out HWS.out H4.out hno)
          have HR6 := (HR4.out.next b5).next (below_new w5 (.cells #[.string ⟨#[]⟩, .int .i64 0, .int .i64 0] 55))
          have HF := Lib.hid (HR6.fin (.slice none 0 0) (.slice none 0 0))
          have f0 := HR6.ra.free 0
          have f1 := HR6.ra.free 1
          have r0 := HR6.r0
          have r1 := HR6.r1
          have t0 := HR6.t0
          have t1 := HR6.t1
          unfold nodeVS
          clear HR6 b5 hno
          go_wp2_with fail
          refine bodyPost_ret (v := .tuple #[.agg #[.slice none 0 0, .slice none 0 0], .bool false]) (by simp [results, Tryz.results19, go_sem, r0, r1]) rfl ⟨.inl ⟨rfl, HNO.out⟩, HF.out⟩
      · have h4b : ((ws.length : Int) == 4) = false := by simp; omega
        by_cases h6 : ws.length = 6
        rotate_left 1
        · have h6b : ((ws.length : Int) != 6) = true := by simp; omega
          have HNO := Lib.hid (agr_words HBS.out hlt HX.out HWS.out h4 h6)
          have HR6 := HR4.out
          have HF := Lib.hid (HR6.fin (.slice none 0 0) (.slice none 0 0))
          have f0 := HR6.ra.free 0
          have f1 := HR6.ra.free 1
          have r0 := HR6.r0
          have r1 := HR6.r1
          have t0 := HR6.t0
          have t1 := HR6.t1
          clear HR6 h4 h6 W4
          go_wp2_with fail
          refine bodyPost_ret (v := .tuple #[.agg #[.slice none 0 0, .slice none 0 0], .bool false]) (by simp [results, Tryz.results19, go_sem, r0, r1]) rfl ⟨.inl ⟨rfl, HNO.out⟩, HF.out⟩
        · rcases ws with _ | ⟨x0, _ | ⟨x1, _ | ⟨x2, _ | ⟨x3, _ | ⟨x4, _ | ⟨x5, _ | ⟨x6, r⟩⟩⟩⟩⟩⟩⟩
          all_goals first | (exfalso; simp only [List.length_cons, List.length_nil] at h6; omega) | skip
          obtain ⟨g9, c10, he, hg9, hc9, hcells9⟩ := words_cells W4 (by simp)
          injection he with e1 _ e3
          subst e1 e3
          have hg9w : wr.heap.size ≤ g9 := (W4.own.lt g9 rfl).1
          have c1 : w4.cell? ⟨g9, 1, none⟩ = some (.string x1) := hcells9 1 x1 rfl
          have c2 : w4.cell? ⟨g9, 2, none⟩ = some (.string x2) := hcells9 2 x2 rfl
          have D4 : Wd w4 (.slice (some ⟨g9, 3, none⟩) 3 (c9 - 3)) [x3, x4, x5] := ⟨_, _, rfl, .inr ⟨g9, 3, rfl, hg9, fun i y hy => by
            have := hcells9 (i + 3) y (by simpa using hy)
            rw [show 0 + (i + 3) = 3 + i by omega] at this
            exact this⟩⟩
          have hxs9 : ∀ y ∈ [x0, x1, x2, x3, x4, x5], y.size ≤ 1048576 := fun y hy => by
            have h1 : y.data.toList ∈ sp x.data.toList.length x.data.toList := by rw [← HWS.out]; exact List.mem_map_of_mem hy
            have h2 := sp_size _ _ _ h1
            have e1 : y.data.toList.length = y.size := Array.length_toList
            have e2 : x.data.toList.length = x.size := Array.length_toList
            omega
          have HXS9 := Lib.hid hxs9
          simp only [List.length_cons, List.length_nil] at hc9
          have hcv3 : ¬ c9 = 3 := by omega
          have hcv6 : (3 : Int) ≤ c9 := by omega
          clear h4 h6 W4 hcells9 hxs9 h4b
          go_wp2_with fail
          refine (numbers_any w4 _ [x3, x4, x5] D4 (by simp) (fun y hy => by have := HXS9.out y (by simp only [List.mem_cons] at hy ⊢; simp only [hy, or_true]); omega)).mono ?_
          rintro e w5 ⟨(⟨rfl, j, y, hj, hno⟩ | ⟨vn, gn, d, rfl, O5, hgn, hd⟩), b5⟩
          · have HNO := Lib.hid (agr_nonum HBS.out hlt HX.out HWS.out hj hno)
            have HR6 := HR4.out.next b5
            have HF := Lib.hid (HR6.fin (.slice none 0 0) (.slice none 0 0))
            have f0 := HR6.ra.free 0
            have f1 := HR6.ra.free 1
            have r0 := HR6.r0
            have r1 := HR6.r1
            have t0 := HR6.t0
            have t1 := HR6.t1
            clear HR6 D4 b5 hj hno
            go_wp2_with fail
            refine bodyPost_ret (v := .tuple #[.agg #[.slice none 0 0, .slice none 0 0], .bool false]) (by simp [results, Tryz.results19, go_sem, r0, r1]) rfl ⟨.inl ⟨rfl, HNO.out⟩, HF.out⟩
          · have HR5 := HR4.out.next b5
            have HRH := Lib.hid HR5
            obtain ⟨cn9, rfl⟩ := O5.shape
            have y0 : w5.cell? ⟨gn, 0, none⟩ = some (.int .i64 (d 0)) := O5.row.cell 0 (by simp)
            have y1 : w5.cell? ⟨gn, 1, none⟩ = some (.int .i64 (d 1)) := O5.row.cell 1 (by simp)
            have y2 : w5.cell? ⟨gn, 2, none⟩ = some (.int .i64 (d 2)) := O5.row.cell 2 (by simp)
            have u1 : w5.cell? ⟨g9, 1, none⟩ = some (.string x1) := (b5.cell (p := ⟨g9, 1, none⟩) hg9).trans c1
            have u2 : w5.cell? ⟨g9, 2, none⟩ = some (.string x2) := (b5.cell (p := ⟨g9, 2, none⟩) hg9).trans c2
            have HAG := Lib.hid (agr_pipe HA.out HBS.out hlt HX.out HWS.out hd)
            have hgl := O5.lt
            have hgl9 : g9 < w5.heap.size := Nat.lt_of_lt_of_le hg9 b5.size
            have hw4 : w4.heap.size ≤ w5.heap.size := b5.size
            have hobl : ∀ z, some z = (Value.slice pp kp cp).ownBlock → z < wr.heap.size := fun z e => (HR.out.rp.own.lt z e.symm).2
            have hAny : ∀ X : World, Upd (fun z => some z = (Value.slice pp kp cp).ownBlock) w5 X → (fun w' : World => w'.cell? ⟨g9, 1, none⟩ = some (.string x1) ∧ w'.cell? ⟨g9, 2, none⟩ = some (.string x2) ∧ w'.cell? ⟨gn, 0, none⟩ = some (.int .i64 (d 0)) ∧ w'.cell? ⟨gn, 1, none⟩ = some (.int .i64 (d 1)) ∧ w'.cell? ⟨gn, 2, none⟩ = some (.int .i64 (d 2))) X := fun X u => by
              have k9 := u.block g9 hgl9 (fun e => by have := hobl _ e; omega)
              have kn := u.block gn hgl (fun e => by have := hobl _ e; omega)
              exact ⟨(World.cell?_of_block k9).trans u1, (World.cell?_of_block k9).trans u2, (World.cell?_of_block kn).trans y0, (World.cell?_of_block kn).trans y1, (World.cell?_of_block kn).trans y2⟩
            obtain ⟨gN, sN, _⟩ := RowE.ownS HR5.rn
            have cN0 : Cs w5 (.slice pn kn cn) kn 3 (nodC N) 0 w5.heap.size := sN.cs (.inr rfl) (Nat.le_refl _)
            have hCS : ∀ X : World, Below w5.heap.size w5 X → Cs X (.slice pn kn cn) kn 3 (nodC N) 0 w5.heap.size := fun X b => cN0.below b (Nat.le_refl _)
            have hRP : ∀ X : World, Below w5.heap.size w5 X → RP (w2.heap.size + 1) X (.slice pp kp cp) kp (pipC P) := fun X b => RowE.next HRH.out.rp b
            have K0 : Below w5.heap.size w5 w5.drew := ⟨rfl, rfl, rfl, Nat.le_refl _, fun _ _ => rfl⟩
            have hz5 := HR5.sz
            clear HR5 O5 D4 b5 sN cN0 c1 c2
            go_wp2_with fail
            go_region_held3 (fun w' : World => w'.cell? ⟨g9, 1, none⟩ = some (.string x1) ∧ w'.cell? ⟨g9, 2, none⟩ = some (.string x2) ∧ w'.cell? ⟨gn, 0, none⟩ = some (.int .i64 (d 0)) ∧ w'.cell? ⟨gn, 1, none⟩ = some (.int .i64 (d 1)) ∧ w'.cell? ⟨gn, 2, none⟩ = some (.int .i64 (d 2)))
              (first | exact hAny _ (Upd.refl _ _) | exact hAny _ U7 | exact hAny _ UA | exact hAny _ (Upd.of_below BL) | exact hAny _ (Upd.of_below K0))
              (first
                | (go_at_call 43; refine (l03Index_any _ _ kn N 0 w5.heap.size (by first | exact hCS _ BL | exact hCS _ K0) (by omega) _).mono ?_; rintro e w6 ⟨rfl, hb1⟩; have BL2 : Below w5.heap.size w5 w6 := (by first | exact BL.trans (hb1.mono BL.size) | exact K0.trans (hb1.mono K0.size)); have BL := BL2; clear BL2 hb1; obtain ⟨v7, w7, hr, hrow, hup⟩ := appPip2 (w2.heap.size + 1) w6 _ kp P ⟨ixV N kn x1, ixV N kn x2, d 0, d 1, d 2⟩ (hRP _ BL) (by have := BL.size; omega) (by omega); have UA := (Upd.of_below BL : Upd (fun z => some z = (Value.slice pp kp cp).ownBlock) w5 w6).trans (Upd.of_below (below_new w6 (.cells #[.int .i64 (ixV N kn x1), .int .i64 (ixV N kn x2), .int .i64 (d 0), .int .i64 (d 1), .int .i64 (d 2)] 62))); have U7 := (Upd.of_below BL : Upd (fun z => some z = (Value.slice pp kp cp).ownBlock) w5 w6).trans hup)
                | (refine step_appT hr rfl (.tmp 62) (.tmp 83) rfl rfl rfl rfl ?_))
            have HN7 := Lib.hid (HRH.out.pipe hrow U7)
            clear hAny hCS hRP K0 BL UA U7 hr hrow hup y0 y1 y2 u1 u2
            go_wp2_with fail
            go_roundw
            case rel => exact ⟨k + 1, _, v7, kn, kp + 1, N, _, by go_num, rfl, rfl, by omega, HN7.out, HAG.out, HSZ.out⟩
            case measure => simp [intOf]; omega
    · have hend : k + 1 = bs.length := by omega
      have hendI : ¬ ((k : Int) + 1 < bs.length) := by omega
      have hO := ((Only.refl w.heap.size wr).setCell 0 (.slice pn kn cn)).setCell 1 (.slice pp kp cp)
      have HNT := Lib.hid (net_rows2 (a := w.heap.size) (RowE.low HR.out.rn (Upd.of_only hO) hz.1) (RowE.low HR.out.rp (Upd.of_only hO) hz.1) (by omega))
      have HF := Lib.hid (HR.out.fin (.slice pn kn cn) (.slice pp kp cp))
      have HAG := Lib.hid (fun n' N' m' P' hb he => by
        have hl := text_len hb he HBS.out
        obtain ⟨a1, a2, a3, a4⟩ := HA.out.ag n' N' m' P' hb he
        exact ⟨by omega, by omega, a3, a4⟩ : ∀ n' N' m' P', netB n' N' m' P' = true → netL n' N' m' P' = s.data.toList → kn = n' ∧ kp = m' ∧ (∀ i, i < kn → N i = N' i) ∧ ∀ i, i < kp → P i = P' i)
      have f0 := HR.out.ra.free 0
      have f1 := HR.out.ra.free 1
      have r0 := HR.out.r0
      have r1 := HR.out.r1
      clear hO
      go_wp2_with fail
      refine bodyPost_ret (v := .tuple #[.agg #[.slice pn kn cn, .slice pp kp cp], .bool true]) (by simp [results, Tryz.results19, go_sem, r0, r1]) rfl ⟨.inr ⟨_, kn, N, kp, P, rfl, HNT.out, HSZ.out, HAG.out⟩, HF.out⟩
end Go.Proofs.YtbenloeomjdkcaaGreatDoor.text

namespace Go.Proofs.YtbenloeomjdkcaaGreatDoor.text
open Go.RowKit Go.Proofs.YtbenloeomjdkcaaGreatDoor.mem
set_option linter.unusedVariables false
set_option maxRecDepth 100000

theorem netL_congr {n : Nat} {N N' : Nat → Nod} {m : Nat} {P P' : Nat → Pip} (hb : netB n N' m P' = true) (hN : ∀ i, i < n → N i = N' i) (hP : ∀ i, i < m → P i = P' i) : netL n N m P = netL n N' m P' := by
  unfold netL
  rw [nodesT_congr hN, pipesT_congr (N := N) hP, pipesT_glue, pipesT_glue]
  congr 2
  refine List.map_congr_left (fun i hi => ?_)
  obtain ⟨f, t, e1, e2, f1, t1, _⟩ := pip_bd ((net_nodes hb).2 i (List.mem_range.1 hi))
  unfold pipeL
  rw [hN _ (by omega), hN _ (by omega)]
theorem netL_ne {n : Nat} {N : Nat → Nod} {m : Nat} {P : Nat → Pip} (hb : netB n N m P = true) : netL n N m P ≠ [] := by
  intro e
  have h1 := glue_len (lns n N m P)
  rw [← netL_glue, e, lns_len] at h1
  have h2 := net_sz hb
  simp at h1
  omega
theorem netAt_only {w w' : World} {v : Value} {n m g : Nat} {N : Nat → Nod} {P : Nat → Pip} {lo hi : Nat} (h : NetAt w v n N m P lo hi) (k : Only g w w') (hg : g < lo) : NetAt w' v n N m P lo hi := by
  obtain ⟨v0, v1, rfl, h0, h1⟩ := h.ex
  exact ⟨v0, v1, rfl, h0.only k (.inl hg), h1.only k (.inl hg)⟩
theorem netAt_wide {w : World} {v : Value} {n m : Nat} {N : Nat → Nod} {P : Nat → Pip} {lo hi hi' : Nat} (h : NetAt w v n N m P lo hi) (h2 : hi ≤ hi') : NetAt w v n N m P 0 hi' := by
  obtain ⟨v0, v1, rfl, h0, h1⟩ := h.ex
  exact ⟨v0, v1, rfl, h0.mono (by omega) h2, h1.mono (by omega) h2⟩
def SRAns (s : List UInt8) (e : Ending) (w' : World) : Prop :=
  (∃ v n N m P, netB n N m P = true ∧ netL n N m P = s ∧ e = .returned (.tuple #[v, .bool true]) ∧ NetAt w' v n N m P 0 w'.heap.size) ∨
  ((∀ n N m P, netB n N m P = true → netL n N m P ≠ s) ∧ e = .returned (.tuple #[.agg #[.slice none 0 0, .slice none 0 0], .bool false]))
set_option maxHeartbeats 8000000 in
theorem sReadNetwork_any (w : World) (s : ByteArray) (hs : s.size ≤ 1048576) :
    Calls Tryz.prog 6 #[.string s] w fun e w' => SRAns s.data.toList e w' ∧ Below w.heap.size w w' := by
  have R1 := boxed w (.slice none 0 0) (.slice none 0 0) 25
  have C1 := below_new w (.cells #[.slice none 0 0, .slice none 0 0] 25)
  have hz1 : (w.alloc (.cells #[.slice none 0 0, .slice none 0 0] 25)).heap.size = w.heap.size + 1 := by simp
  go_enter Tryz.func6, Tryz.ntmps6
  go_wp2_with fail
  generalize hW : w.alloc (Obj.cells #[.slice none 0 0, .slice none 0 0] 25) = w1 at *
  clear hW
  replace hz1 := Nat.le_antisymm_iff.1 hz1
  have hl1 := R1.lt
  have fin : ∀ (X : World) (v0 v1 : Value), Below w.heap.size w X → Below w.heap.size w ((X.setCell ⟨w.heap.size, 0, none⟩ v0).setCell ⟨w.heap.size, 1, none⟩ v1) := fun X v0 v1 u =>
    u.trans ((((Only.refl w.heap.size X).setCell 0 v0).setCell 1 v1).below (Nat.le_refl _))
  have FIN := Lib.hid fin
  have c0 : ∀ {X : World}, Ob X w.heap.size 2 (bx (.slice none 0 0) (.slice none 0 0)) → X.cell? ⟨w.heap.size, 0, none⟩ = some (.slice none 0 0) ∧ X.cell? ⟨w.heap.size, 1, none⟩ = some (.slice none 0 0) := fun h => ⟨h.cell 0 (by omega), h.cell 1 (by omega)⟩
  have CC := Lib.hid C1
  clear fin C1
  refine (l03Read_any w1 s hs).mono ?_
  rintro e w2 ⟨⟨rfl, hno⟩ | ⟨v, n, N, m, P, rfl, hnet, hsz, hag⟩, b2⟩
  · have B3 := below_new w2 (.cells #[.slice none 0 0, .slice none 0 0] 25)
    have R3 := (R1.below b2 hl1).below B3 (by have := b2.size; omega)
    have HF := Lib.hid (FIN.out _ (.slice none 0 0) (.slice none 0 0) ((CC.out.trans (b2.mono (by omega))).trans (B3.mono (by have := b2.size; omega))))
    have HNO := Lib.hid hno
    obtain ⟨r0, r1⟩ := c0 R3
    have f0 := R3.free 0
    have f1 := R3.free 1
    clear R1 R3 B3 b2 hno
    go_wp2_with fail
    refine bodyPost_ret (v := .tuple #[.agg #[.slice none 0 0, .slice none 0 0], .bool false]) (by simp [results, Tryz.results6, go_sem, r0, r1]) rfl ⟨.inr ⟨HNO.out, rfl⟩, HF.out⟩
  · obtain ⟨v0, v1, rfl, g0, g1⟩ := hnet.ex
    obtain ⟨p0, cp0, rfl⟩ := g0.shape
    obtain ⟨p1, cp1, rfl⟩ := g1.shape
    have B3 := below_new w2 (.cells #[.slice p0 n cp0, .slice p1 m cp1] 25)
    have V3 := boxed w2 (.slice p0 n cp0) (.slice p1 m cp1) 25
    have z3 : (w2.alloc (.cells #[.slice p0 n cp0, .slice p1 m cp1] 25)).heap.size = w2.heap.size + 1 := by simp
    have R3 := (R1.below b2 hl1).below B3 (by have := b2.size; omega)
    have q : (w2.alloc (.cells #[.slice p0 n cp0, .slice p1 m cp1] 25)).cell? ⟨w2.heap.size, 0, none⟩ = some (.slice p0 n cp0) ∧ (w2.alloc (.cells #[.slice p0 n cp0, .slice p1 m cp1] 25)).cell? ⟨w2.heap.size, 1, none⟩ = some (.slice p1 m cp1) := ⟨V3.cell 0 (by omega), V3.cell 1 (by omega)⟩
    obtain ⟨q0, q1⟩ := q
    have HN3 := hnet.below B3 (Nat.le_refl _)
    have C3 := (CC.out.trans (b2.mono (by omega))).trans (B3.mono (by have := b2.size; omega))
    have HAG := Lib.hid hag
    have HSZ := Lib.hid hsz
    have hs2 := b2.size
    clear hnet hag hsz g0 g1 R1 b2 B3
    by_cases hemp : s.data.toList = []
    · have t0 : (s.toList == []) = true := by rw [beq_iff_eq, Go.ByteArray.toList_eq]; exact hemp
      have HNO := Lib.hid (fun n' N' m' P' hb he => netL_ne hb (he.trans hemp) : ∀ n' N' m' P', netB n' N' m' P' = true → netL n' N' m' P' ≠ s.data.toList)
      have HF := Lib.hid (FIN.out _ (.slice none 0 0) (.slice none 0 0) C3)
      obtain ⟨r0, r1⟩ := c0 R3
      have f0 := R3.free 0
      have f1 := R3.free 1
      clear V3 R3 HN3 C3 hemp
      go_wp2_with fail
      refine bodyPost_ret (v := .tuple #[.agg #[.slice none 0 0, .slice none 0 0], .bool false]) (by simp [results, Tryz.results6, go_sem, r0, r1]) rfl ⟨.inr ⟨HNO.out, rfl⟩, HF.out⟩
    · have t0 : (s.toList == []) = false := by rw [beq_eq_false_iff_ne, Go.ByteArray.toList_eq]; exact hemp
      have HNE := Lib.hid hemp
      clear hemp
      go_wp2_with fail
      refine (sNetworkText_any _ _ n N m P w1.heap.size w2.heap.size HN3 (by rw [z3]; omega) HSZ.out).mono ?_
      rintro e w4 ⟨rfl, b4⟩
      have hs4 := b4.size
      rw [z3] at hs4
      have V4 := V3.below b4 (by rw [z3]; omega)
      have q : w4.cell? ⟨w2.heap.size, 0, none⟩ = some (.slice p0 n cp0) ∧ w4.cell? ⟨w2.heap.size, 1, none⟩ = some (.slice p1 m cp1) := ⟨V4.cell 0 (by omega), V4.cell 1 (by omega)⟩
      obtain ⟨q2, q3⟩ := q
      have R4 := R3.below b4 (by rw [z3]; omega)
      have HN4 := HN3.below b4 (by rw [z3]; omega)
      have C4 := C3.trans (b4.mono (by rw [z3]; omega))
      obtain ⟨r0, r1⟩ := c0 R4
      have f0 := R4.free 0
      have f1 := R4.free 1
      clear V3 R3 HN3 C3 V4 R4 b4 q0 q1 t0
      by_cases he : netT n N m P = s.data.toList
      · have he2 : (netT n N m P == s.toList) = true := by rw [beq_iff_eq, Go.ByteArray.toList_eq]; exact he
        have hv : netB n N m P = true ∧ netL n N m P = s.data.toList := by
          cases hb : netB n N m P
          · unfold netT at he
            rw [hb] at he
            exact absurd he.symm HNE.out
          · unfold netT at he
            rw [if_pos hb] at he
            exact ⟨rfl, he⟩
        have HV := Lib.hid hv
        have hO := ((Only.refl w.heap.size w4).setCell 0 (.slice p0 n cp0)).setCell 1 (.slice p1 m cp1)
        have HNT := Lib.hid (netAt_wide (netAt_only HN4 hO (by omega)) (Nat.le_trans (show w2.heap.size ≤ w4.heap.size by omega) (Nat.le_of_eq hO.size)))
        have HF := Lib.hid (FIN.out w4 (.slice p0 n cp0) (.slice p1 m cp1) C4)
        clear he hv hO HN4 C4
        go_wp2_with fail
        refine bodyPost_ret (v := .tuple #[.agg #[.slice p0 n cp0, .slice p1 m cp1], .bool true]) (by simp [results, Tryz.results6, go_sem, r0, r1]) rfl ⟨.inl ⟨_, n, N, m, P, HV.out.1, HV.out.2, rfl, HNT.out⟩, HF.out⟩
      · have he2 : (netT n N m P == s.toList) = false := by rw [beq_eq_false_iff_ne, Go.ByteArray.toList_eq]; exact he
        have HNO := Lib.hid (fun n' N' m' P' hb hl => by
          obtain ⟨rfl, rfl, a3, a4⟩ := HAG.out n' N' m' P' hb hl
          apply he
          have hbb := netB_congr hb (fun i hi => (a3 i hi).symm) (fun i hi => (a4 i hi).symm)
          unfold netT
          rw [if_pos hbb, netL_congr hb a3 a4, hl] : ∀ n' N' m' P', netB n' N' m' P' = true → netL n' N' m' P' ≠ s.data.toList)
        have HF := Lib.hid (FIN.out w4 (.slice none 0 0) (.slice none 0 0) C4)
        clear he HN4 C4 q2 q3
        go_wp2_with fail
        refine bodyPost_ret (v := .tuple #[.agg #[.slice none 0 0, .slice none 0 0], .bool false]) (by simp [results, Tryz.results6, go_sem, r0, r1]) rfl ⟨.inr ⟨HNO.out, rfl⟩, HF.out⟩
end Go.Proofs.YtbenloeomjdkcaaGreatDoor.text

namespace Go.Proofs.YtbenloeomjdkcaaGreatDoor.text
open Go.RowKit Go.Proofs.YtbenloeomjdkcaaGreatDoor.mem
set_option linter.unusedVariables false
set_option maxRecDepth 100000

theorem firstWrong_big (w : World) (s : ByteArray) (hs : 4000 < s.size) :
    Calls Tryz.prog 15 #[.string s] w fun e w' => e = .returned (.tuple #[.int .i64 0, .int .i64 3]) ∧ Below w.heap.size w w' := by
  have hsI : (4000 : Int) < s.size := by omega
  go_enter Tryz.func15, Tryz.ntmps15
  go_wp2_with fail
  go_ret2
  exact ⟨rfl, Below.refl _ _⟩
theorem sFirstWrong_big (w : World) (s : ByteArray) (hs : 4000 < s.size) :
    Calls Tryz.prog 18 #[.string s] w fun e w' => e = .returned (.tuple #[.int .i64 0, .int .i64 3]) ∧ Below w.heap.size w w' := by
  have hsI : (4000 : Int) < s.size := by omega
  go_enter Tryz.func18, Tryz.ntmps18
  go_wp2_with fail
  go_ret2
  exact ⟨rfl, Below.refl _ _⟩
theorem take_pre : ∀ (k : Nat) (s : List UInt8) (i : Nat), i < (nl.sp k s).length → ∃ r, s = glue ((nl.sp k s).take i) ++ r
  | 0, s, i, h => by
    obtain rfl : i = 0 := by
      simp only [nl.sp, List.length_cons, List.length_nil] at h
      omega
    exact ⟨s, by simp [glue]⟩
  | k + 1, s, 0, h => ⟨s, by simp [glue]⟩
  | k + 1, s, i + 1, h => by
    by_cases hm : (10 : UInt8) ∈ s
    · obtain ⟨a, t, ha, rfl⟩ := nl.cut_ex hm
      rw [nl.sp_one ha] at h ⊢
      obtain ⟨r, hr⟩ := take_pre k t i (by simpa using h)
      refine ⟨r, ?_⟩
      have e1 : glue (a :: (nl.sp k t).take i) ++ r = a ++ 10 :: (glue ((nl.sp k t).take i) ++ r) := by simp [glue]
      rw [List.take_succ_cons, e1, ← hr]
    · rw [nl.sp_end hm] at h
      simp at h
set_option maxHeartbeats 8000000 in
theorem sFirstWrong_any (w : World) (s : ByteArray) (hs : s.size ≤ 4000) :
    Calls Tryz.prog 18 #[.string s] w fun e w' => ∃ x : Int, e = .returned (.tuple #[.int .i64 x, .int .i64 0]) ∧ FWS s.data.toList x ∧ Below w.heap.size w w' := by
  have hsI : (s.size : Int) ≤ 4000 := by omega
  by_cases hemp : s.data.toList = []
  · have t0 : (s.toList == []) = true := by rw [beq_iff_eq, Go.ByteArray.toList_eq]; exact hemp
    have HE := Lib.hid hemp
    clear hemp
    go_enter Tryz.func18, Tryz.ntmps18
    go_wp2_with fail
    go_ret2
    exact ⟨0, rfl, .inl ⟨HE.out, rfl⟩, Below.refl _ _⟩
  have t0 : (s.toList == []) = false := by rw [beq_eq_false_iff_ne, Go.ByteArray.toList_eq]; exact hemp
  have HNE := Lib.hid hemp
  clear hemp
  go_enter Tryz.func18, Tryz.ntmps18
  go_wp2_with fail
  refine (nl.split_any w s (by omega)).mono ?_
  rintro e w2 ⟨v, bs, rfl, W2, hbs, b2⟩
  have hs2 := b2.size
  have hlen : bs.length = (nl.sp s.data.toList.length s.data.toList).length := by rw [← hbs, List.length_map]
  have hbl : bs.length ≤ 4001 := by
    have h2 := nlsp_len s.data.toList.length s.data.toList
    have h3 : s.data.toList.length = s.size := Array.length_toList
    omega
  have hb0 : 0 < bs.length := by
    have h2 : (nl.sp s.data.toList.length s.data.toList).length ≠ 0 := fun e => nl.sp_ne _ _ (List.length_eq_zero_iff.1 e)
    omega
  obtain ⟨gw, cw, rfl, hgw, hcw, hcells⟩ := words_cells W2 hb0
  have HC := Lib.hid (fun j x hx => by have := hcells j x hx; rwa [Nat.zero_add] at this : ∀ (j : Nat) x, bs[j]? = some x → w2.cell? ⟨gw, j, none⟩ = some (.string x))
  have HBS := Lib.hid hbs
  have HB2 := Lib.hid b2
  have HLEN := Lib.hid hlen
  clear hcells W2 hbs b2 hlen
  go_wp2_with fail
  go_loopw [6, 5, 7, 8] (fun i hd _ _ wr => ∃ (k : Nat) (h : ByteArray), i = .int .i64 k ∧ hd = .string h ∧ k + 1 ≤ bs.length ∧ h.data.toList = glue ((nl.sp s.data.toList.length s.data.toList).take k) ∧ (∀ j, j < k → okHead (nl.sp s.data.toList.length s.data.toList) (j + 1)) ∧ Below w2.heap.size w2 wr) (fun i _ _ _ _ => bs.length - (intOf i).toNat)
  case atStart => exact ⟨0, _, rfl, rfl, by omega, by simp [glue], fun j hj => by omega, Below.refl _ _⟩
  case round =>
    obtain ⟨k, h, rfl, rfl, hk, hh, hok, hB⟩ := hrel
    have HH := Lib.hid hh
    have HOK := Lib.hid hok
    have HB := Lib.hid hB
    have hsr := hB.size
    clear hh hok hB
    obtain ⟨x, hx⟩ : ∃ x, bs[k]? = some x := ⟨bs[k], List.getElem?_eq_getElem (by omega)⟩
    have cx : wr.cell? ⟨gw, k, none⟩ = some (.string x) := (HB.out.cell (p := ⟨gw, k, none⟩) hgw).trans (HC.out k x hx)
    have hLk : (nl.sp s.data.toList.length s.data.toList)[k]? = some x.data.toList := by rw [← HBS.out, List.getElem?_map, hx]; rfl
    have HLK := Lib.hid hLk
    have hkJ : (k : Int) < bs.length := by omega
    clear hx hLk
    by_cases hlt : k + 1 < bs.length
    · have hkI : (k : Int) + 1 < bs.length := by omega
      have hnew : (h ++ x ++ ⟨#[10]⟩).data.toList = glue ((nl.sp s.data.toList.length s.data.toList).take (k + 1)) := by
        rw [List.take_add_one, HLK.out, glue_app, ← HH.out]
        simp [ByteArray.data_append, glue]
      have hsz : (h ++ x ++ ⟨#[10]⟩).size ≤ 4000 := by
        obtain ⟨r, hr⟩ := take_pre s.data.toList.length s.data.toList (k + 1) (by rw [← HLEN.out]; exact hlt)
        have h1 := congrArg List.length hr
        rw [List.length_append, ← hnew] at h1
        have h2 : s.data.toList.length = s.size := Array.length_toList
        have h3 : (h ++ x ++ ⟨#[10]⟩).data.toList.length = (h ++ x ++ ⟨#[10]⟩).size := Array.length_toList
        omega
      have hsz2 : h.size + x.size + 1 ≤ 4000 := by
        have := hsz
        simp only [ByteArray.size_append] at this
        exact this
      have HNEW := Lib.hid hnew
      have HSZ := Lib.hid hsz
      clear hnew hsz
      go_wp2_with fail
      refine (sReadNetwork_any wr _ (Nat.le_trans HSZ.out (by omega))).mono ?_
      rintro e w4 ⟨⟨v, n, N, m, P, hb, hl, rfl, hnet⟩ | ⟨hno, rfl⟩, b4⟩
      · obtain ⟨v0, v1, rfl, g0, g1⟩ := hnet.ex
        obtain ⟨p0, cp0, rfl⟩ := g0.shape
        obtain ⟨p1, cp1, rfl⟩ := g1.shape
        have HK := Lib.hid (⟨n, N, m, P, hb, by rw [hl, HNEW.out]⟩ : okHead (nl.sp s.data.toList.length s.data.toList) (k + 1))
        have HB4 := Lib.hid ((HB.out.trans (b4.mono hsr)).trans ((below_new w4 (.cells #[.slice p0 n cp0, .slice p1 m cp1] 25)).mono (Nat.le_trans hsr b4.size)))
        clear hnet g0 g1 hb hl b4
        go_wp2_with fail
        go_roundw
        case rel => exact ⟨k + 1, _, by go_num, rfl, by omega, HNEW.out, fun j hj => by
          rcases (by omega : j < k ∨ j = k) with q | rfl
          · exact HOK.out j q
          · exact HK.out, HB4.out⟩
        case measure => simp [intOf]; omega
      · have HNO := Lib.hid (fun ⟨n, N, m, P, hb, hl⟩ => hno n N m P hb (hl.trans HNEW.out.symm) : ¬ okHead (nl.sp s.data.toList.length s.data.toList) (k + 1))
        have HB4 := Lib.hid (HB2.out.trans ((((HB.out.trans (b4.mono hsr)).trans ((below_new w4 (.cells #[.slice none 0 0, .slice none 0 0] 25)).mono (Nat.le_trans hsr b4.size)))).mono hs2))
        clear hno b4
        go_wp2_with fail
        go_ret2
        exact ⟨k, rfl, .inr ⟨HNE.out, .inl ⟨k, rfl, by rw [← HLEN.out]; exact hlt, HOK.out, HNO.out⟩⟩, HB4.out⟩
    · have hendI : ¬ ((k : Int) + 1 < bs.length) := by omega
      have hidx : (bs.length : Int) - 1 = k := by omega
      have HBE := Lib.hid (HB2.out.trans (HB.out.mono hs2))
      have HALL := Lib.hid (fun j hj => HOK.out j (by rw [← HLEN.out] at hj; omega) : ∀ j, j + 1 < (nl.sp s.data.toList.length s.data.toList).length → okHead (nl.sp s.data.toList.length s.data.toList) (j + 1))
      have HLAST := Lib.hid (show (nl.sp s.data.toList.length s.data.toList).getLast? = some x.data.toList by
        rw [List.getLast?_eq_getElem?, ← HLEN.out, show bs.length - 1 = k by omega, HLK.out])
      by_cases hx0 : x.data.toList = []
      · have t1 : (x.toList == []) = true := by rw [beq_iff_eq, Go.ByteArray.toList_eq]; exact hx0
        have HX0 := Lib.hid hx0
        clear hx0
        go_wp2_with fail
        go_ret2
        exact ⟨-1, rfl, .inr ⟨HNE.out, .inr ⟨HALL.out, .inr ⟨by rw [HLAST.out, HX0.out], rfl⟩⟩⟩, HBE.out⟩
      · have t1 : (x.toList == []) = false := by rw [beq_eq_false_iff_ne, Go.ByteArray.toList_eq]; exact hx0
        have HX0 := Lib.hid hx0
        clear hx0
        go_wp2_with fail
        go_ret2
        exact ⟨k, rfl, .inr ⟨HNE.out, .inr ⟨HALL.out, .inl ⟨by rw [HLAST.out]; intro e; injection e with e; exact HX0.out e, by rw [← HLEN.out]; omega⟩⟩⟩, HBE.out⟩
end Go.Proofs.YtbenloeomjdkcaaGreatDoor.text

namespace Go.Proofs.YtbenloeomjdkcaaGreatDoor.text
open Go.RowKit Go.Proofs.YtbenloeomjdkcaaGreatDoor.mem
set_option linter.unusedVariables false

theorem agreeRead {s : ByteArray} {e : Ending} {w1 : World} (h : SRAns s.data.toList e w1) : ∃ (n : Nat) (N : Nat → Nod) (m : Nat) (P : Nat → Pip) (f : Bool), n ≤ 1000 ∧ m ≤ 1000 ∧ (∃ v, e = .returned (.tuple #[v, .bool f]) ∧ NetAt w1 v n N m P 0 w1.heap.size) ∧ ∀ B e' w', RNAns B s e' w' → ∃ v b1 b2, e' = .returned (.tuple #[v, .bool f]) ∧ NetOwn w' v n N m P b1 b2 ∧ B ≤ b1 ∧ B ≤ b2 := by
  rcases h with ⟨v, n, N, m, P, hb, hl, rfl, hnet⟩ | ⟨hno, rfl⟩
  · have hz := net_sz hb
    refine ⟨n, N, m, P, true, by omega, by omega, ⟨v, rfl, hnet⟩, ?_⟩
    rintro B e' w' (⟨v', n', N', m', P', b1, b2, hb', hl', rfl, ho, h1, h2⟩ | ⟨hno, rfl⟩)
    · obtain ⟨rfl, rfl, a3, a4⟩ := netL_inj hb hb' (hl.trans hl'.symm)
      obtain ⟨v0, v1, rfl, g0, g1, g2⟩ := ho.ex
      exact ⟨_, b1, b2, rfl, ⟨v0, v1, rfl, g0.congr (fun i j hi hj => by unfold nodC; rw [a3 i hi]), g1.congr (fun i j hi hj => by unfold pipC; rw [a4 i hi]), g2⟩, h1, h2⟩
    · exact absurd hl (hno n N m P hb)
  · refine ⟨0, fun _ => ⟨⟨#[]⟩, 0, 0⟩, 0, fun _ => ⟨0, 0, 0, 0, 0⟩, false, by omega, by omega, ⟨_, rfl, ⟨_, _, rfl, Cs.none_ _ _ _ _ _, Cs.none_ _ _ _ _ _⟩⟩, ?_⟩
    rintro B e' w' (⟨v', n', N', m', P', b1, b2, hb', hl', rfl, ho, h1, h2⟩ | ⟨_, rfl⟩)
    · exact absurd hl' (hno _ _ _ _ hb')
    · exact ⟨_, B, B, rfl, ⟨_, _, rfl, OwnS.none_ _ _ _ _, OwnS.none_ _ _ _ _, .inl rfl⟩, Nat.le_refl _, Nat.le_refl _⟩
end Go.Proofs.YtbenloeomjdkcaaGreatDoor.text
