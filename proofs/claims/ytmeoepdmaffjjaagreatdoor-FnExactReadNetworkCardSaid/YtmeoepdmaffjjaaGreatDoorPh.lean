/-
  The parser of networks: a line, whatever network was read so far. Conditions: as each states.
-/
import Derived.Test.YtmeoepdmaffjjaaGreatDoorRows
import Derived.Test.YtmeoepdmaffjjaaGreatDoorPd
import Derived.Test.YtmeoepdmaffjjaaGreatDoorPg
import Derived.Test.YtmeoepdmaffjjaaGreatDoorNetNN
import Derived.WalkKit
import Derived.ProofKit
import Derived.Lib.Hide
import Derived.OwnWalk
namespace Go.Proofs.YtmeoepdmaffjjaaGreatDoor.text
open Go.RowKit Go.Proofs.YtmeoepdmaffjjaaGreatDoor.mem
set_option linter.unusedVariables false
set_option maxRecDepth 100000

def wPipe : List UInt8 := [112, 105, 112, 101]
/-- the words of a line, and the network before it and with it -/
def LineOK (n : Nat) (N : Nat → Nod) (m : Nat) (P : Nat → Pip) (ps : List ByteArray) (n' : Nat) (N' : Nat → Nod) (m' : Nat) (P' : Nat → Pip) : Prop :=
  (m = 0 ∧ ∃ x0 x1 x2 lo hi, ps = [⟨wNode.toArray⟩, x0, x1, x2] ∧ NumOK x1.data.toList lo ∧ NumOK x2.data.toList hi ∧ n' = n + 1 ∧ N' = addN N n ⟨x0, lo, hi⟩ ∧ m' = m ∧ P' = P) ∨
  (∃ x0 x1 x2 x3 x4 kk vv ll, ps = [⟨wPipe.toArray⟩, x0, x1, x2, x3, x4] ∧ nnC n N m P x0 = 0 ∧ nnC n N m P x1 = 0 ∧ NumOK x2.data.toList kk ∧ NumOK x3.data.toList vv ∧ NumOK x4.data.toList ll ∧ n' = n ∧ N' = N ∧ m' = m + 1 ∧ P' = addP P m ⟨nnV n N m P x0, nnV n N m P x1, kk, vv, ll⟩)
theorem map_ba : ∀ (ps qs : List ByteArray), ps.map (·.data.toList) = qs.map (·.data.toList) → ps = qs
  | [], [], _ => rfl
  | [], q :: qs, h => by simp at h
  | p :: ps, [], h => by simp at h
  | p :: ps, q :: qs, h => by
    simp only [List.map_cons, List.cons.injEq] at h
    rw [map_ba ps qs h.2, ba_of h.1]
def RLG (w : World) (b B n : Nat) (N : Nat → Nod) (m : Nat) (P : Nat → Pip) (k : Int) (s : ByteArray) (e : Ending) (w' : World) : Prop :=
  (e = .panicked fell ∧ Pan b k (fun x => x = b ∨ B ≤ x) w w' ∧ ∀ ps, ps.map (·.data.toList) = sp 6 s.data.toList → ∀ n' N' m' P', LineOK n N m P ps n' N' m' P' → netB n' N' m' P' = false) ∨
  ∃ ps n' N' m' P' p1 c1 p2 c2 vW', ps.map (·.data.toList) = sp 6 s.data.toList ∧ LineOK n N m P ps n' N' m' P' ∧ netB n' N' m' P' = true ∧ e = .returned (.tuple #[]) ∧ Ob w' b 4 (parC (.slice p1 n' c1) (.slice p2 m' c2) k vW') ∧ RN B w' (.slice p1 n' c1) n' (nodC N') ∧ RP B w' (.slice p2 m' c2) m' (pipC P') ∧ (m' = 0 → p2 = none ∧ c2 = 0) ∧ Upd (fun x => x = b ∨ B ≤ x) w w'
theorem net_rows {B n m cN cP : Nat} {w : World} {pN pP : Option Addr} {N : Nat → Nod} {P : Nat → Pip} (h : RN B w (.slice pN n cN) n (nodC N)) (g : RP B w (.slice pP m cP) m (pipC P)) : NetAt w (.agg #[.slice pN n cN, .slice pP m cP]) n N m P 0 w.heap.size := by
  obtain ⟨g1, s1, _⟩ := RowE.ownS h
  obtain ⟨g2, s2, _⟩ := RowE.ownS g
  exact ⟨_, _, rfl, s1.cs (.inr rfl) (Nat.le_refl _), s2.cs (.inr rfl) (Nat.le_refl _)⟩
theorem add_names {n : Nat} {N : Nat → Nod} {q : Nod} (h : ∀ i, i < n → (N i).s.size ≤ 9223372036854775807) (hq : q.s.size ≤ 9223372036854775807) : ∀ i, i < n + 1 → (addN N n q i).s.size ≤ 9223372036854775807 := by
  intro i _
  unfold addN
  split
  · exact h i (by assumption)
  · exact hq

set_option maxHeartbeats 4000000 in
theorem readLineG (w0 w : World) (b B n m cN cP : Nat) (pN pP : Option Addr) (N : Nat → Nod) (P : Nat → Pip) (k : Int) (vW : Value) (s : ByteArray) (h : Ob w b 4 (parC (.slice pN n cN) (.slice pP m cP) k vW)) (hN : RN B w (.slice pN n cN) n (nodC N)) (hP : RP B w (.slice pP m cP) m (pipC P)) (h00 : m = 0 → pP = none ∧ cP = 0) (hn : n ≤ 1000) (hm : m ≤ 1000) (hsN : ∀ i, i < n → (N i).s.size ≤ 9223372036854775807) (hbB : b < B) (hBw : B ≤ w.heap.size) (hE : Env w0) (h0 : Below w0.heap.size w0 w) (hb : w0.heap.size ≤ b) (hs : s.size ≤ 1048576) :
    Calls Tryz.prog 42 #[.pointer (some ⟨b, 0, none⟩), .string s] w (RLG w b B n N m P k s) := by
  have HSN := Lib.hid hsN
  have H00 := Lib.hid h00
  clear hsN h00
  have HE := Lib.hid hE
  have H0 := Lib.hid h0
  obtain ⟨mx, hmx⟩ := (env_below hE h0).maxlen
  clear hE h0
  obtain ⟨ps, hps0⟩ : ∃ ps, ps = Lib.splitB ⟨#[32]⟩ 0 (min 7 (s.size + 1) - 1) s := ⟨_, rfl⟩
  obtain ⟨cp, hcp⟩ : ∃ cp, cp = min 7 (s.size + 1) := ⟨_, rfl⟩
  have hps : ps.map (·.data.toList) = sp 6 s.data.toList := by rw [hps0]; exact splitB_sp 6 s
  have hpl : ps.length ≤ cp := by rw [hps0, hcp]; have := Lib.splitB_length_le ⟨#[32]⟩ 0 (min 7 (s.size + 1) - 1) s; omega
  have hcp7 : cp ≤ 7 := by omega
  have hsp := Tryz.strings_SplitN s ⟨#[32]⟩ 7 mx w (by omega) hmx (by decide) (by omega) (by omega)
  rw [← hps0, ← hcp] at hsp
  obtain ⟨w1, hw1⟩ : ∃ w1, w1 = w.alloc (.cells (Lib.cellsOf ps cp) 9) := ⟨_, rfl⟩
  have HSP := Lib.hid (hsp.mono (fun e w' h => ⟨h.1, hw1.trans h.2.symm⟩) : Calls Tryz.prog 59 #[.string s, .string ⟨#[32]⟩, .int .i64 7] w fun e w' => e = .returned (.slice (some ⟨w.heap.size, 0, none⟩) ps.length cp) ∧ w1 = w')
  have hb1 : Below w.heap.size w w1 := by rw [hw1]; exact below_new _ _
  have hz1 : w1.heap.size = w.heap.size + 1 := by rw [hw1]; simp
  have hc1 : ∀ (i : Nat) x, ps[i]? = some x → w1.cell? ⟨w.heap.size, 0 + i, none⟩ = some (.string x) := fun i x hx => by
    have e := heap_alloc_new w (.cells (Lib.cellsOf ps cp) 9)
    rw [hw1]
    simp only [World.cell?, e]
    have := cellsOf_get ps cp i x hx
    simpa using this
  replace hz1 := Nat.le_antisymm_iff.1 hz1
  clear hw1
  have HPS := Lib.hid hps
  have hpsz : ∀ x ∈ ps, x.size ≤ 281474976710656 := fun x hx => by
    have h1 : x.data.toList ∈ sp 6 s.data.toList := by rw [← hps]; exact List.mem_map_of_mem hx
    have h2 := sp_size _ _ _ h1
    have e1 : x.data.toList.length = x.size := Array.length_toList
    have e2 : s.data.toList.length = s.size := Array.length_toList
    omega
  have HPZ := Lib.hid hpsz
  clear hsp hps hpsz hps0 hcp hmx
  have hbl := h.lt
  -- the words in a row of their own
  have O1 := h.below hb1 hbl
  have f3' : w1.frozen? ⟨b, 3, none⟩ = false := O1.free 3
  have g3' : w1.cell? ⟨b, 3, none⟩ = some vW := O1.cell 3 (by omega)
  have W1 : Ws w1 b (.slice (some ⟨w.heap.size, 0, none⟩) ps.length cp) ps := ⟨_, cp, rfl, hpl, by omega, .inr ⟨w.heap.size, 0, rfl, by omega, by omega, hc1⟩⟩
  have hO := (Only.refl b w1).setCell 3 (.slice (some ⟨w.heap.size, 0, none⟩) ps.length cp)
  have O2 := (O1.set 3 (.slice (some ⟨w.heap.size, 0, none⟩) ps.length cp) (by omega)).congr (e := parC (.slice pN n cN) (.slice pP m cP) k (.slice (some ⟨w.heap.size, 0, none⟩) ps.length cp)) (fun j hj => by rcases (by omega : j = 0 ∨ j = 1 ∨ j = 2 ∨ j = 3) with rfl | rfl | rfl | rfl <;> rfl)
  have W2 := W1.upd (Upd.of_only hO)
  have U2 : Upd (· = b) w _ := (Upd.of_below hb1).trans (Upd.of_only hO)
  have N2 := (RowE.next hN hb1).low (Upd.of_only hO) hbB
  have P2 := (RowE.next hP hb1).low (Upd.of_only hO) hbB
  clear O1 W1 hO h hc1 hb1 hN hP
  go_enter Tryz.func42, Tryz.ntmps42
  go_wp2_with (first | (go_at_call 59; refine HSP.out.mono ?_; rintro e w' ⟨rfl, rfl⟩))
  generalize hW : w1.setCell ⟨b, 3, none⟩ (.slice (some ⟨w.heap.size, 0, none⟩) ps.length cp) = w2 at *
  clear hW f3' g3'
  have bw : ∀ X : World, Upd (· = b) w X → Below w0.heap.size w0 X := fun X u => H0.out.trans (u.below H0.out.size (by rintro q _ rfl; exact hb))
  have BW := Lib.hid bw
  have hB2 : B ≤ w2.heap.size := Nat.le_trans hBw U2.size
  have HUQ : ∀ qs : List ByteArray, qs.map (·.data.toList) = sp 6 s.data.toList → qs = ps := fun qs e => map_ba _ _ (e.trans HPS.out.symm)
  have HUQ := Lib.hid HUQ
  refine (word_any w2 b _ _ _ k ps O2 W2).mono ?_
  rintro e w3 (⟨hnil, rfl, rfl⟩ | ⟨x, r, vW3, hxr, rfl, O3, W3, U3⟩)
  · subst hnil
    refine ⟨rfl, .inl ⟨rfl, ⟨upd_or U2, O2.cell 2 (by omega)⟩, fun qs e n' N' m' P' hl => ?_⟩⟩
    obtain rfl := HUQ.out qs e
    rcases hl with ⟨_, x0, x1, x2, lo, hi, h1, _⟩ | ⟨x0, x1, x2, x3, x4, kk, vv, ll, h1, _⟩ <;> cases h1
  have U23 := U2.trans U3
  have N3 := RowE.low N2 U3 hbB
  have P3 := RowE.low P2 U3 hbB
  clear U2 U3 O2 W2 bw N2 P2
  have hB3 : B ≤ w3.heap.size := Nat.le_trans hBw U23.size
  by_cases hnw : x = ⟨wNode.toArray⟩
  · have hx : x = ⟨#[110, 111, 100, 101]⟩ := hnw
    subst hx
    have HXR := Lib.hid hxr
    have B3 := BW.out _ U23
    have hr : ∀ y ∈ r, y.size ≤ 281474976710656 := fun y hy => HPZ.out y (by rw [HXR.out]; exact List.mem_cons_of_mem _ hy)
    have HU := Lib.hid U23
    clear hxr U23
    go_wp2_with fail
    refine (readNode_any w0 w3 b B n N (.slice pN n cN) vW3 pP m cP k r O3 W3 N3 hbB hB3 hn HE.out B3 hb hr).mono ?_
    rintro e w4 (⟨rfl, U4, hno⟩ | ⟨hm0, x0, x1, x2, r2, lo, hi, vN, pw, cw, hr2, n1, n2, rfl, O4, R4, U4⟩)
    · refine ⟨rfl, .inl ⟨rfl, ⟨(upd_or HU.out).trans U4.upd, U4.lines⟩, fun qs e n' N' m' P' hl => ?_⟩⟩
      obtain rfl := HUQ.out qs e
      rw [HXR.out] at hl
      rcases hl with ⟨hm0, x0, x1, x2, lo, hi, h1, n1, n2, _⟩ | ⟨x0, x1, x2, x3, x4, kk, vv, ll, h1, _⟩
      · injection h1 with _ h1
        exact (hno hm0 _ _ _ [] lo hi h1 n1 n2).elim
      · injection h1 with h1 _
        cases h1
    obtain ⟨rfl, rfl⟩ := H00.out hm0
    subst hm0
    have UU := Lib.hid ((upd_or HU.out).trans U4)
    have N1 := Lib.hid n1
    have N2 := Lib.hid n2
    have hB4 : B ≤ w4.heap.size := Nat.le_trans hB3 U4.size
    have HR2 := Lib.hid hr2
    have P4 : RP B w4 (.slice none 0 0) 0 (pipC P) := ⟨World.ownsRow_nil _ _ _ _⟩
    clear U4 n1 n2 hr2 hr B3 O3 W3 HU N3 P3
    obtain ⟨p4, c4, rfl⟩ := RowE.shape R4
    have a0 : w4.cell? ⟨b, 0, none⟩ = some (.slice p4 (n + 1) c4) := O4.cell 0 (by omega)
    have a1 : w4.cell? ⟨b, 1, none⟩ = some (.slice none 0 0) := O4.cell 1 (by omega)
    have a3 : w4.cell? ⟨b, 3, none⟩ = some (.slice pw r2.length cw) := O4.cell 3 (by omega)
    have O4H := Lib.hid O4
    have R4H := Lib.hid R4
    have P4H := Lib.hid P4
    rcases r2 with _ | ⟨y, r3⟩
    · have HNA := Lib.hid (net_rows R4 P4)
      have hz0 : x0.size ≤ 281474976710656 := HPZ.out x0 (by rw [HXR.out, HR2.out]; simp)
      clear O4 R4 P4
      go_wp2_with fail
      refine (isNetwork_any w4 _ (n + 1) _ 0 _ 0 _ HNA.out (Nat.le_refl _) (add_names HSN.out (by show x0.size ≤ _; omega))).mono ?_
      rintro e w5 ⟨rfl, b5⟩
      have U5 := Lib.hid (UU.out.trans (Upd.of_below b5))
      have O5 := Lib.hid (O4H.out.below b5 O4H.out.lt)
      have R5 := Lib.hid (RowE.next R4H.out b5)
      have P5 := Lib.hid (RowE.next P4H.out b5)
      have HLO : Hid (LineOK n N 0 P ps (n + 1) (addN N n ⟨x0, lo, hi⟩) 0 P) := Lib.hid (.inl ⟨rfl, x0, x1, x2, lo, hi, by rw [HXR.out, HR2.out]; rfl, N1.out, N2.out, rfl, rfl, rfl, rfl⟩)
      clear b5 a0 a1 a3
      cases hq : netB (n + 1) (addN N n ⟨x0, lo, hi⟩) 0 P
      · have HQ := Lib.hid hq
        clear hq
        go_wp2_with (first | (go_at_call 41; refine (fail_any _ _).mono ?_; rintro e w' ⟨rfl, rfl⟩))
        refine ⟨rfl, .inl ⟨rfl, ⟨U5.out, O5.out.cell 2 (by omega)⟩, fun qs e n' N' m' P' hl => ?_⟩⟩
        obtain rfl := HUQ.out qs e
        rw [HXR.out, HR2.out] at hl
        rcases hl with ⟨_, y0, y1, y2, lo', hi', h1, n1, n2, rfl, rfl, rfl, rfl⟩ | ⟨y0, y1, y2, y3, y4, kk, vv, ll, h1, _⟩
        · simp only [List.cons.injEq, and_true] at h1
          obtain ⟨_, rfl, rfl, rfl⟩ := h1
          obtain rfl := numOK_uniq N1.out n1
          obtain rfl := numOK_uniq N2.out n2
          exact HQ.out
        · injection h1 with h1 _
          cases h1
      · have HQ := Lib.hid hq
        clear hq
        go_wp2_with fail
        go_end0
        exact .inr ⟨ps, _, _, _, _, _, _, _, _, _, HPS.out, HLO.out, HQ.out, rfl, O5.out, R5.out, P5.out, fun _ => ⟨rfl, rfl⟩, U5.out⟩
    · have hlI : (0 : Int) < ((r3.length + 1 : Nat) : Int) := by omega
      simp only [List.length_cons] at a3
      clear O4 R4 P4
      go_wp2_with (first | (go_at_call 41; refine (fail_any _ _).mono ?_; rintro e w' ⟨rfl, rfl⟩))
      refine ⟨rfl, .inl ⟨rfl, ⟨UU.out, O4H.out.cell 2 (by omega)⟩, fun qs e n' N' m' P' hl => ?_⟩⟩
      obtain rfl := HUQ.out qs e
      rw [HXR.out, HR2.out] at hl
      rcases hl with ⟨_, y0, y1, y2, lo', hi', h1, _⟩ | ⟨y0, y1, y2, y3, y4, kk, vv, ll, h1, _⟩
      · simp at h1
      · injection h1 with h1 _
        cases h1
  have t1 : (x.toList == [110, 111, 100, 101]) = false := by rw [beq_eq_false_iff_ne, Go.ByteArray.toList_eq]; exact fun e => hnw (ba_of e)
  have B3 := BW.out _ U23
  have HXR := Lib.hid hxr
  have HNW := Lib.hid hnw
  have hr : ∀ y ∈ r, y.size ≤ 281474976710656 := fun y hy => HPZ.out y (by rw [hxr]; exact List.mem_cons_of_mem _ hy)
  have HU := Lib.hid U23
  clear hnw U23 hxr
  by_cases hp : x = ⟨#[112, 105, 112, 101]⟩
  · subst hp
    clear t1
    have hnn : ∀ (X : World) (z : ByteArray), Upd (· = b) w3 X → z.size ≤ 281474976710656 → Calls Tryz.prog 91 #[.agg #[.slice pN n cN, .slice pP m cP], .string z] X fun e w' => e = .returned (.tuple #[.int .i64 (nnV n N m P z), .int .i64 (nnC n N m P z)]) ∧ Below X.heap.size X w' := fun X z u hz =>
      nodeNamedI_any X _ n N m P 0 _ (net_rows (RowE.low N3 u hbB) (RowE.low P3 u hbB)) (Nat.le_refl _) HSN.out z (by omega)
    have HNN := Lib.hid hnn
    clear hnn
    go_wp2_with fail
    refine (readPipe_any w0 w3 b B n m cN cP pN pP P vW3 k (nnV n N m P) (nnC n N m P) r O3 W3 P3 hbB hB3 hm HE.out B3 hb hr HNN.out).mono ?_
    rintro e w4 (⟨rfl, U4, hno⟩ | ⟨x0, x1, x2, x3, x4, r2, kk, vv, ll, vP', pw, cw, hr2, c0, c1, n2, n3, n4, rfl, O4, R4, U4⟩)
    all_goals have hob : ∀ y, some y = (Value.slice pP m cP).ownBlock → B ≤ y := fun y e => (P3.own.lt y e.symm).1
    · refine ⟨rfl, .inl ⟨rfl, ⟨(upd_or HU.out).trans (U4.upd.mono (fun y _ e => e.imp id (hob y))), U4.lines⟩, fun qs e n' N' m' P' hl => ?_⟩⟩
      obtain rfl := HUQ.out qs e
      rw [HXR.out] at hl
      rcases hl with ⟨hm0, x0, x1, x2, lo, hi, h1, _⟩ | ⟨x0, x1, x2, x3, x4, kk, vv, ll, h1, c0, c1, n2, n3, n4, _⟩
      · injection h1 with h1 _
        cases h1
      · injection h1 with _ h1
        exact (hno _ _ _ _ _ [] kk vv ll h1 c0 c1 n2 n3 n4).elim
    have UU := Lib.hid ((upd_or (B := B) HU.out).trans (U4.mono (fun y _ e => e.imp id (hob y))))
    have N4 : RN B w4 (.slice pN n cN) n (nodC N) := RowE.keep N3 U4 (fun y hy e => by
      rcases e with e | e
      · have := (N3.own.lt y hy).1
        omega
      · exact mem.rows_apart N3 P3 (by decide) y hy e)
    obtain ⟨p4, c4, rfl⟩ := RowE.shape R4
    have HC0 := Lib.hid c0
    have HC1 := Lib.hid c1
    have HN2 := Lib.hid n2
    have HN3 := Lib.hid n3
    have HN4 := Lib.hid n4
    have HR2 := Lib.hid hr2
    clear U4 c0 c1 n2 n3 n4 hr2 hr B3 O3 W3 HU N3 P3 hob
    have a0 : w4.cell? ⟨b, 0, none⟩ = some (.slice pN n cN) := O4.cell 0 (by omega)
    have a1 : w4.cell? ⟨b, 1, none⟩ = some (.slice p4 (m + 1) c4) := O4.cell 1 (by omega)
    have a3 : w4.cell? ⟨b, 3, none⟩ = some (.slice pw r2.length cw) := O4.cell 3 (by omega)
    have O4H := Lib.hid O4
    have R4H := Lib.hid R4
    have N4H := Lib.hid N4
    rcases r2 with _ | ⟨y, r3⟩
    · have HNA := Lib.hid (net_rows N4 R4)
      clear O4 R4 N4
      go_wp2_with fail
      refine (isNetwork_any w4 _ n _ (m + 1) _ 0 _ HNA.out (Nat.le_refl _) HSN.out).mono ?_
      rintro e w5 ⟨rfl, b5⟩
      have U5 := Lib.hid (UU.out.trans (Upd.of_below b5))
      have O5 := Lib.hid (O4H.out.below b5 O4H.out.lt)
      have R5 := Lib.hid (RowE.next R4H.out b5)
      have N5 := Lib.hid (RowE.next N4H.out b5)
      have HLO : Hid (LineOK n N m P ps n N (m + 1) (addP P m ⟨nnV n N m P x0, nnV n N m P x1, kk, vv, ll⟩)) := Lib.hid (.inr ⟨x0, x1, x2, x3, x4, kk, vv, ll, by rw [HXR.out, HR2.out]; rfl, HC0.out, HC1.out, HN2.out, HN3.out, HN4.out, rfl, rfl, rfl, rfl⟩)
      clear b5 a0 a1 a3
      cases hq : netB n N (m + 1) (addP P m ⟨nnV n N m P x0, nnV n N m P x1, kk, vv, ll⟩)
      · have HQ := Lib.hid hq
        clear hq
        go_wp2_with (first | (go_at_call 41; refine (fail_any _ _).mono ?_; rintro e w' ⟨rfl, rfl⟩))
        refine ⟨rfl, .inl ⟨rfl, ⟨U5.out, O5.out.cell 2 (by omega)⟩, fun qs e n' N' m' P' hl => ?_⟩⟩
        obtain rfl := HUQ.out qs e
        rw [HXR.out, HR2.out] at hl
        rcases hl with ⟨_, y0, y1, y2, lo', hi', h1, _⟩ | ⟨y0, y1, y2, y3, y4, kk', vv', ll', h1, _, _, n2, n3, n4, rfl, rfl, rfl, rfl⟩
        · injection h1 with h1 _
          cases h1
        · simp only [List.cons.injEq, and_true] at h1
          obtain ⟨_, rfl, rfl, rfl, rfl, rfl⟩ := h1
          obtain rfl := numOK_uniq HN2.out n2
          obtain rfl := numOK_uniq HN3.out n3
          obtain rfl := numOK_uniq HN4.out n4
          exact HQ.out
      · have HQ := Lib.hid hq
        clear hq
        go_wp2_with fail
        go_end0
        exact .inr ⟨ps, _, _, _, _, _, _, _, _, _, HPS.out, HLO.out, HQ.out, rfl, O5.out, N5.out, R5.out, fun e => by omega, U5.out⟩
    · have hlI : (0 : Int) < ((r3.length + 1 : Nat) : Int) := by omega
      simp only [List.length_cons] at a3
      clear O4 R4 N4
      go_wp2_with (first | (go_at_call 41; refine (fail_any _ _).mono ?_; rintro e w' ⟨rfl, rfl⟩))
      refine ⟨rfl, .inl ⟨rfl, ⟨UU.out, O4H.out.cell 2 (by omega)⟩, fun qs e n' N' m' P' hl => ?_⟩⟩
      obtain rfl := HUQ.out qs e
      rw [HXR.out, HR2.out] at hl
      rcases hl with ⟨_, y0, y1, y2, lo', hi', h1, _⟩ | ⟨y0, y1, y2, y3, y4, kk', vv', ll', h1, _⟩
      · injection h1 with h1 _
        cases h1
      · simp at h1
  · have t2 : (x.toList == [112, 105, 112, 101]) = false := by rw [beq_eq_false_iff_ne, Go.ByteArray.toList_eq]; exact fun e => hp (ba_of e)
    have HPW := Lib.hid hp
    clear hp
    go_wp2_with (first | (go_at_call 41; refine (fail_any _ _).mono ?_; rintro e w' ⟨rfl, rfl⟩))
    refine ⟨rfl, .inl ⟨rfl, ⟨upd_or HU.out, O3.cell 2 (by omega)⟩, fun qs e n' N' m' P' hl => ?_⟩⟩
    obtain rfl := HUQ.out qs e
    rw [HXR.out] at hl
    rcases hl with ⟨_, y0, y1, y2, lo', hi', h1, _⟩ | ⟨y0, y1, y2, y3, y4, kk', vv', ll', h1, _⟩
    · injection h1 with h1 _
      exact absurd h1 HNW.out
    · injection h1 with h1 _
      exact absurd h1 HPW.out
end Go.Proofs.YtmeoepdmaffjjaaGreatDoor.text
