/-
  The parser of networks: the line of one node. Conditions: as each states.
-/
import Derived.Test.YtmeoepdmaffjjaaGreatDoorRows
import Derived.Test.YtmeoepdmaffjjaaGreatDoorPc
import Derived.Test.YtmeoepdmaffjjaaGreatDoorNetK
import Derived.WalkKit
import Derived.ProofKit
import Derived.Lib.Hide
import Derived.OwnWalk
namespace Go.Proofs.YtmeoepdmaffjjaaGreatDoor.text
open Go.RowKit Go.Proofs.YtmeoepdmaffjjaaGreatDoor.mem
set_option linter.unusedVariables false
set_option maxRecDepth 100000

set_option maxHeartbeats 2000000 in
theorem nodeNamed_none (w : World) (v : Value) (n : Nat) (N : Nat → Nod) (m : Nat) (P : Nat → Pip) (lo hi : Nat) (h : NetAt w v n N m P lo hi) (hhi : hi ≤ w.heap.size) (hN : ∀ i, i < n → (N i).s.size ≤ 9223372036854775807) (h1 : netB n N m P = false) (s : ByteArray) :
    Calls Tryz.prog 91 #[v, .string s] w fun e w' => e = .returned (.tuple #[.int .i64 0, .int .i64 1]) ∧ Below w.heap.size w w' := by
  obtain ⟨v0, v1, rfl, g0, g1⟩ := h.ex
  obtain ⟨p0, c0, rfl⟩ := g0.shape
  obtain ⟨p1, c1, rfl⟩ := g1.shape
  have H := Lib.hid h
  have HN := Lib.hid hN
  clear h hN g0 g1
  have A1 := boxed w (.slice p0 n c0) (.slice p1 m c1) 25
  have C1 := below_new w (.cells #[.slice p0 n c0, .slice p1 m c1] 25)
  have hs1 := C1.size
  go_enter Tryz.func91, Tryz.ntmps91
  go_wp2_with fail
  generalize hW : w.alloc (Obj.cells #[.slice p0 n c0, .slice p1 m c1] 25) = w1 at *
  clear hW
  refine (isNetwork_any w1 _ n N m P lo hi (H.out.below C1 hhi) (by omega) HN.out).mono ?_
  rintro e w2 ⟨rfl, b2⟩
  have C2 := Lib.hid (C1.trans (b2.mono hs1))
  clear A1 C1 b2
  rw [h1]
  go_wp2_with fail
  refine bodyPost_ret (v := .tuple #[.int .i64 0, .int .i64 1]) (by simp [results, Tryz.results91, go_sem]) rfl ⟨rfl, C2.out⟩
theorem netB_zero (N : Nat → Nod) (P : Nat → Pip) : netB 0 N 0 P = false := by
  unfold netB szB
  simp
theorem netB_one (q : Nod) (P : Nat → Pip) : netB 1 (fun _ => q) 0 P = nodB q := by
  have h1 : szB 1 0 = true := szB_iff.2 ⟨by omega, by omega, by omega⟩
  have h2 : pipesB 1 P 0 = true := pipesB_iff.2 (fun i hi => by omega)
  unfold netB
  rw [h1, h2]
  simp only [Bool.true_and, Bool.and_true]
  rw [Bool.eq_iff_iff, nodesB_iff]
  exact ⟨fun h => h.1 0 (by omega), fun h => ⟨fun i _ => h, fun i j h1 h2 => by omega⟩⟩
theorem ba_of {x : ByteArray} {l : List UInt8} (e : x.data.toList = l) : x = ⟨l.toArray⟩ := by
  subst e
  rfl
theorem line_pieces {s : ByteArray} {ps : List ByteArray} (hps : ps.map (·.data.toList) = sp 6 s.data.toList) {q : Nod} (hq : nodB q = true) (h : nodeL q = s.data.toList) : ∃ y1 y2, ps = [⟨wNode.toArray⟩, q.s, y1, y2] ∧ y1.data.toList = Lib.decDigits q.lo.toNat ∧ y2.data.toList = Lib.decDigits q.hi.toNat := by
  rw [← h, sp_node hq 3] at hps
  have toB : ∀ (x : ByteArray) (l : List UInt8), x.data.toList = l → x = ⟨l.toArray⟩ := fun x l e => by
    subst e
    rfl
  rcases ps with _ | ⟨x0, _ | ⟨x1, _ | ⟨x2, _ | ⟨x3, _ | ⟨x4, r⟩⟩⟩⟩⟩
  all_goals simp at hps
  obtain ⟨h0, h1, h2, h3⟩ := hps
  refine ⟨x2, x3, ?_, h2, h3⟩
  rw [toB x0 _ h0, ByteArray.ext h1]
theorem line_of {s x0 x1 x2 : ByteArray} {lo hi : Int} (hps : [(⟨wNode.toArray⟩ : ByteArray), x0, x1, x2].map (·.data.toList) = sp 6 s.data.toList) (h1 : NumOK x1.data.toList lo) (h2 : NumOK x2.data.toList hi) (hq : nodB ⟨x0, lo, hi⟩ = true) : nodeL ⟨x0, lo, hi⟩ = s.data.toList := by
  obtain ⟨_, a, b⟩ := nod_bd hq
  have e : s.data.toList = wNode ++ 32 :: (x0.data.toList ++ 32 :: (x1.data.toList ++ 32 :: x2.data.toList)) := sp_cat4 hps.symm
  have e1 : Lib.decDigits lo.toNat = x1.data.toList := (itoa_nat a.1).symm.trans h1.2
  have e2 : Lib.decDigits hi.toNat = x2.data.toList := (itoa_nat b.1).symm.trans h2.2
  rw [e, nodeL_cat]
  show wNode ++ 32 :: (x0.data.toList ++ 32 :: (Lib.decDigits lo.toNat ++ 32 :: Lib.decDigits hi.toNat)) = _
  rw [e1, e2]
theorem numOK_uniq {l : List UInt8} {x y : Int} (h : NumOK l x) (g : NumOK l y) : x = y := by
  have := h.1.symm.trans g.1
  injection this

def RLPost (w : World) (b B : Nat) (s : ByteArray) (e : Ending) (w' : World) : Prop :=
  (e = .panicked fell ∧ Upd (fun x => x = b ∨ B ≤ x) w w' ∧ ∀ q, nodB q = true → nodeL q ≠ s.data.toList) ∨
  ∃ q vN vW, nodB q = true ∧ nodeL q = s.data.toList ∧ e = .returned (.tuple #[]) ∧ Ob w' b 4 (parC vN (.slice none 0 0) 0 vW) ∧ RN B w' vN 1 (nodC fun _ => q) ∧ Upd (fun x => x = b ∨ B ≤ x) w w'
theorem cellsOf_get (ps : List ByteArray) (n i : Nat) (x : ByteArray) (hx : ps[i]? = some x) : (Lib.cellsOf ps n)[i]? = some (.string x) := by
  unfold Lib.cellsOf
  have hi : i < ps.length := (List.getElem?_eq_some_iff.1 hx).1
  simp [hi, List.getElem?_append_left]
  exact (List.getElem?_eq_some_iff.1 hx).2
theorem _root_.Go.Proofs.YtmeoepdmaffjjaaGreatDoor.mem.RowE.congr1 {B : Nat} {w : World} {p : Option Addr} {c : Nat} {q : Nod} {N : Nat → Nod} (h : RN B w (.slice p (0 + 1) c) (0 + 1) (nodC (addN N 0 q))) : RN B w (.slice p (0 + 1) c) 1 (nodC fun _ => q) := by
  have e : nodC (addN N 0 q) = nodC fun _ => q := by
    funext i j
    unfold nodC addN
    simp
  rw [e] at h
  exact h
set_option maxHeartbeats 4000000 in
theorem readLine_any (w0 w : World) (b B : Nat) (vW : Value) (s : ByteArray) (h : Ob w b 4 (parC (.slice none 0 0) (.slice none 0 0) 0 vW)) (hbB : b < B) (hBw : B ≤ w.heap.size) (hE : Env w0) (h0 : Below w0.heap.size w0 w) (hb : w0.heap.size ≤ b) (hs : s.size ≤ 1048576) :
    Calls Tryz.prog 42 #[.pointer (some ⟨b, 0, none⟩), .string s] w (RLPost w b B s) := by
  have HE := Lib.hid hE
  have H0 := Lib.hid h0
  obtain ⟨mx, hmx⟩ := (env_below hE h0).maxlen
  clear hE h0
  obtain ⟨ps, hps0⟩ : ∃ ps, ps = Lib.splitB ⟨#[32]⟩ 0 (min 7 (s.size + 1) - 1) s := ⟨_, rfl⟩
  obtain ⟨cp, hcp⟩ : ∃ cp, cp = min 7 (s.size + 1) := ⟨_, rfl⟩
  have hps : ps.map (·.data.toList) = sp 6 s.data.toList := by rw [hps0]; exact splitB_sp 6 s
  have hpl : ps.length ≤ cp := by rw [hps0, hcp]; have := Lib.splitB_length_le ⟨#[32]⟩ 0 (min 7 (s.size + 1) - 1) s; omega
  have hcp7 : cp ≤ 7 := by omega
  have hsp := Tryz.strings_SplitN s ⟨#[32]⟩ 7 mx w (by omega) hmx (by decide) (by omega) (by omega)
  rw [← hps0, ← hcp] at hsp
  obtain ⟨w1, hw1⟩ : ∃ w1, w1 = w.alloc (.cells (Lib.cellsOf ps cp) 9) := ⟨_, rfl⟩
  have HSP := Lib.hid (hsp.mono (fun e w' h => ⟨h.1, hw1.trans h.2.symm⟩) : Calls Tryz.prog 59 #[.string s, .string ⟨#[32]⟩, .int .i64 7] w fun e w' => e = .returned (.slice (some ⟨w.heap.size, 0, none⟩) ps.length cp) ∧ w1 = w')
  have hb1 : Below w.heap.size w w1 := by rw [hw1]; exact below_new _ _
  have hz1 : w1.heap.size = w.heap.size + 1 := by rw [hw1]; simp
  have hc1 : ∀ (i : Nat) x, ps[i]? = some x → w1.cell? ⟨w.heap.size, 0 + i, none⟩ = some (.string x) := fun i x hx => by
    have e := heap_alloc_new w (.cells (Lib.cellsOf ps cp) 9)
    rw [hw1]
    simp only [World.cell?, e]
    have := cellsOf_get ps cp i x hx
    simpa using this
  replace hz1 := Nat.le_antisymm_iff.1 hz1
  clear hw1
  have HPS := Lib.hid hps
  have hpsz : ∀ x ∈ ps, x.size ≤ 281474976710656 := fun x hx => by
    have h1 : x.data.toList ∈ sp 6 s.data.toList := by rw [← hps]; exact List.mem_map_of_mem hx
    have h2 := sp_size _ _ _ h1
    have e1 : x.data.toList.length = x.size := Array.length_toList
    have e2 : s.data.toList.length = s.size := Array.length_toList
    omega
  have HPZ := Lib.hid hpsz
  clear hsp hps hpsz hps0 hcp hmx
  have hbl := h.lt
  -- the words in a row of their own
  have O1 := h.below hb1 hbl
  have f3' : w1.frozen? ⟨b, 3, none⟩ = false := O1.free 3
  have g3' : w1.cell? ⟨b, 3, none⟩ = some vW := O1.cell 3 (by omega)
  have W1 : Ws w1 b (.slice (some ⟨w.heap.size, 0, none⟩) ps.length cp) ps := ⟨_, cp, rfl, hpl, by omega, .inr ⟨w.heap.size, 0, rfl, by omega, by omega, hc1⟩⟩
  have hO := (Only.refl b w1).setCell 3 (.slice (some ⟨w.heap.size, 0, none⟩) ps.length cp)
  have O2 := (O1.set 3 (.slice (some ⟨w.heap.size, 0, none⟩) ps.length cp) (by omega)).congr (e := parC (.slice none 0 0) (.slice none 0 0) 0 (.slice (some ⟨w.heap.size, 0, none⟩) ps.length cp)) (fun j hj => by rcases (by omega : j = 0 ∨ j = 1 ∨ j = 2 ∨ j = 3) with rfl | rfl | rfl | rfl <;> rfl)
  have W2 := W1.upd (Upd.of_only hO)
  have U2 : Upd (· = b) w _ := (Upd.of_below hb1).trans (Upd.of_only hO)
  clear O1 W1 hO h hc1 hb1
  go_enter Tryz.func42, Tryz.ntmps42
  go_wp2_with (first | (go_at_call 59; refine HSP.out.mono ?_; rintro e w' ⟨rfl, rfl⟩))
  generalize hW : w1.setCell ⟨b, 3, none⟩ (.slice (some ⟨w.heap.size, 0, none⟩) ps.length cp) = w2 at *
  clear hW f3' g3'
  have bw : ∀ X : World, Upd (· = b) w X → Below w0.heap.size w0 X := fun X u => H0.out.trans (u.below H0.out.size (by rintro q _ rfl; exact hb))
  have BW := Lib.hid bw
  have hB2 : B ≤ w2.heap.size := Nat.le_trans hBw U2.size
  refine (word_any w2 b _ _ _ 0 ps O2 W2).mono ?_
  rintro e w3 (⟨hnil, rfl, rfl⟩ | ⟨x, r, vW3, hxr, rfl, O3, W3, U3⟩)
  · subst hnil
    exact ⟨rfl, .inl ⟨rfl, upd_or U2, fun q hq e => by obtain ⟨_, _, h1, _⟩ := line_pieces HPS.out hq e; cases h1⟩⟩
  have U23 := U2.trans U3
  clear U2 U3 O2 W2 bw
  have hB3 : B ≤ w3.heap.size := Nat.le_trans hBw U23.size
  by_cases hn : x = ⟨wNode.toArray⟩
  · have hx : x = ⟨#[110, 111, 100, 101]⟩ := hn
    subst hx
    have HXR := Lib.hid hxr
    have B3 := BW.out _ U23
    have hr : ∀ y ∈ r, y.size ≤ 281474976710656 := fun y hy => HPZ.out y (by rw [HXR.out]; exact List.mem_cons_of_mem _ hy)
    have HU := Lib.hid U23
    clear hxr U23
    go_wp2_with fail
    refine (readNode_any w0 w3 b B 0 (fun _ => ⟨⟨#[]⟩, 0, 0⟩) (.slice none 0 0) vW3 none 0 0 0 r O3 W3 ⟨World.ownsRow_nil _ _ _ _⟩ hbB hB3 (by omega) HE.out B3 hb hr).mono ?_
    rintro e w4 (⟨rfl, U4, hno⟩ | ⟨_, x0, x1, x2, r2, lo, hi, vN, pw, cw, hr2, n1, n2, rfl, O4, R4, U4⟩)
    · refine ⟨rfl, .inl ⟨rfl, (upd_or HU.out).trans U4.upd, fun q hq e => ?_⟩⟩
      obtain ⟨y1, y2, h1, h2, h3⟩ := line_pieces HPS.out hq e
      rw [HXR.out] at h1
      injection h1 with _ h1
      obtain ⟨_, a2, a3⟩ := nod_bd hq
      exact hno rfl _ _ _ [] q.lo q.hi h1 (by rw [h2]; exact numOK_dec a2.1 (by omega)) (by rw [h3]; exact numOK_dec a3.1 (by omega))
    have UU := Lib.hid ((upd_or HU.out).trans U4)
    have N1 := Lib.hid n1
    have N2 := Lib.hid n2
    have hB4 : B ≤ w4.heap.size := Nat.le_trans hB3 U4.size
    have HR2 := Lib.hid hr2
    clear U4 n1 n2 hr2 hr B3 O3 W3 HU
    obtain ⟨p4, c4, rfl⟩ := RowE.shape R4
    have a0 : w4.cell? ⟨b, 0, none⟩ = some (.slice p4 (0 + 1) c4) := O4.cell 0 (by omega)
    have a1 : w4.cell? ⟨b, 1, none⟩ = some (.slice none 0 0) := O4.cell 1 (by omega)
    have a3 : w4.cell? ⟨b, 3, none⟩ = some (.slice pw r2.length cw) := O4.cell 3 (by omega)
    have O4H := Lib.hid O4
    have R4H := Lib.hid R4
    rcases r2 with _ | ⟨y, r3⟩
    · obtain ⟨gn, S4, _⟩ := RowE.ownS R4.congr1
      have hNA : NetAt w4 (.agg #[.slice p4 1 c4, .slice none 0 0]) 1 (fun _ => ⟨x0, lo, hi⟩) 0 (fun _ => ⟨0, 0, 0, 0, 0⟩) 0 w4.heap.size := ⟨_, _, rfl, S4.cs (.inr rfl) (Nat.le_refl _), Cs.none_ _ _ _ _ _⟩
      have hz0 : x0.size ≤ 281474976710656 := HPZ.out x0 (by rw [HXR.out, HR2.out]; simp)
      have HNA := Lib.hid hNA
      clear O4 R4 S4 hNA
      go_wp2_with fail
      refine (isNetwork_any w4 _ 1 _ 0 _ 0 _ HNA.out (Nat.le_refl _) (fun i _ => by show x0.size ≤ _; omega)).mono ?_
      rintro e w5 ⟨rfl, b5⟩
      rw [netB_one]
      have U5 := Lib.hid (UU.out.trans (Upd.of_below b5))
      have O5 := Lib.hid (O4H.out.below b5 O4H.out.lt)
      have R5 := Lib.hid (RowE.next R4H.out b5)
      clear b5 a0 a1 a3
      cases hq : nodB ⟨x0, lo, hi⟩
      · have HQ := Lib.hid hq
        clear hq
        go_wp2_with (first | (go_at_call 41; refine (fail_any _ _).mono ?_; rintro e w' ⟨rfl, rfl⟩))
        refine ⟨rfl, .inl ⟨rfl, U5.out, fun q hq e => ?_⟩⟩
        obtain ⟨y1, y2, h1, h2, h3⟩ := line_pieces HPS.out hq e
        rw [HXR.out, HR2.out] at h1
        simp only [List.cons.injEq, and_true] at h1
        obtain ⟨_, rfl, rfl, rfl⟩ := h1
        obtain ⟨_, a2, a3⟩ := nod_bd hq
        have e1 := numOK_uniq N1.out (by rw [h2]; exact numOK_dec a2.1 (by omega))
        have e2 := numOK_uniq N2.out (by rw [h3]; exact numOK_dec a3.1 (by omega))
        subst e1 e2
        have := HQ.out.symm.trans hq
        cases this
      · have HQ := Lib.hid hq
        clear hq
        go_wp2_with fail
        go_end0
        refine .inr ⟨⟨x0, lo, hi⟩, _, _, HQ.out, line_of (by have := HPS.out; rw [HXR.out, HR2.out] at this; exact this) N1.out N2.out HQ.out, rfl, O5.out, ?_, U5.out⟩
        exact R5.out.congr1
    · have hlI : (0 : Int) < ((r3.length + 1 : Nat) : Int) := by omega
      simp only [List.length_cons] at a3
      clear O4 R4
      go_wp2_with (first | (go_at_call 41; refine (fail_any _ _).mono ?_; rintro e w' ⟨rfl, rfl⟩))
      refine ⟨rfl, .inl ⟨rfl, UU.out, fun q hq e => ?_⟩⟩
      obtain ⟨y1, y2, h1, h2, h3⟩ := line_pieces HPS.out hq e
      rw [HXR.out, HR2.out] at h1
      simp at h1
  have hnq : Hid (∀ q, nodB q = true → nodeL q ≠ s.data.toList) := Lib.hid (fun q hq e => by
    obtain ⟨y1, y2, h1, h2, h3⟩ := line_pieces HPS.out hq e
    rw [hxr] at h1
    injection h1 with h1 _
    exact hn h1)
  have t1 : (x.toList == [110, 111, 100, 101]) = false := by rw [beq_eq_false_iff_ne, Go.ByteArray.toList_eq]; exact fun e => hn (ba_of e)
  have B3 := BW.out _ U23
  have hr : ∀ y ∈ r, y.size ≤ 281474976710656 := fun y hy => HPZ.out y (by rw [hxr]; exact List.mem_cons_of_mem _ hy)
  have HU := Lib.hid U23
  clear hn U23 hxr
  by_cases hp : x = ⟨#[112, 105, 112, 101]⟩
  · subst hp
    clear t1
    go_wp2_with fail
    refine (readPipe_none w3 b none none 0 0 0 0 vW3 0 (fun _ => 0) (fun _ => 1) r O3 W3 hr (fun X z u hz => nodeNamed_none X _ 0 (fun _ => ⟨⟨#[]⟩, 0, 0⟩) 0 (fun _ => ⟨0, 0, 0, 0, 0⟩) 0 0 ⟨_, _, rfl, Cs.none_ _ _ _ _ _, Cs.none_ _ _ _ _ _⟩ (Nat.zero_le _) (fun i hi => by omega) (netB_zero _ _) z) (fun _ => by decide)).mono ?_
    rintro e w4 ⟨rfl, U4⟩
    exact ⟨rfl, .inl ⟨rfl, upd_or (HU.out.trans U4), hnq.out⟩⟩
  · have t2 : (x.toList == [112, 105, 112, 101]) = false := by rw [beq_eq_false_iff_ne, Go.ByteArray.toList_eq]; exact fun e => hp (ba_of e)
    clear hp
    go_wp2_with (first | (go_at_call 41; refine (fail_any _ _).mono ?_; rintro e w' ⟨rfl, rfl⟩))
    exact ⟨rfl, .inl ⟨rfl, upd_or HU.out, hnq.out⟩⟩
end Go.Proofs.YtmeoepdmaffjjaaGreatDoor.text
