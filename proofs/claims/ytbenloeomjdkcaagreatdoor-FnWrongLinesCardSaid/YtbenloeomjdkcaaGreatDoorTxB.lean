/-
  Lines of nodes in the program: joined words and numbers, the line of a node. Condition: the library's table of powers of ten is as its text lays it.
-/
import Derived.Test.YtbenloeomjdkcaaGreatDoorRows
import Derived.Test.YtbenloeomjdkcaaGreatDoorTxA
import Derived.Test.YtbenloeomjdkcaaGreatDoorRowE
import Derived.Test.YtbenloeomjdkcaaGreatDoorShelfF
import Derived.Lib.Join
import Derived.WalkKit
import Derived.ProofKit
import Derived.Lib.Hide
import Derived.Lib.LaidTab
import Derived.Lib.AppendIntMem
import Derived.OwnWalk
namespace Go.Proofs.YtbenloeomjdkcaaGreatDoor.text
open Go.RowKit Go.Proofs.YtbenloeomjdkcaaGreatDoor.mem
set_option linter.unusedVariables false
set_option maxRecDepth 100000

theorem var_below {P : Program} {w w' : World} {n : String} {cs : Array Value} (h : w.var? P n = some cs) (hb : Below w.heap.size w w') : w'.var? P n = some cs := by
  unfold World.var? at h ⊢
  cases hg : P.globalNamed n with
  | none => simp [hg] at h
  | some g =>
    simp only [hg, Option.bind_some] at h ⊢
    have hlt : g < w.heap.size := by
      rcases Nat.lt_or_ge g w.heap.size with h1 | h1
      · exact h1
      · simp [Array.getElem?_eq_none h1] at h
    rw [hb.block g hlt]
    exact h
/-- the library's table of powers of ten -/
def Pow (w : World) : Prop := Lib.TabIs Tryz.prog w "internal/strconv.uint64pow10" .u64 Lib.pow10Tab
theorem pow_below {w w' : World} (h : Pow w) (hb : Below w.heap.size w w') : Pow w' := var_below h hb
theorem formatInt_any (x : Int) (w : World) (h0 : 0 ≤ x) (h1 : x ≤ 1000000000) (hp : Pow w) :
    Calls Tryz.prog 74 #[.int .i64 x, .int .i64 10] w (StrPost w (Lib.decDigits x.toNat)) := by
  obtain ⟨n, rfl⟩ := Int.eq_ofNat_of_zero_le h0
  refine (Tryz.strconv_FormatInt_10 n (by omega) (by omega) w hp).mono ?_
  rintro e w' ⟨rfl, k, os, rfl⟩
  refine ⟨?_, Lib.below_grow _ _ (Nat.le_refl _) _ _⟩
  have e1 : Lib.itoa (n : Int) = Lib.decDigits n := by unfold Lib.itoa; rw [if_neg (by omega)]; rfl
  rw [e1, Int.toNat_natCast]

/-- the cells of words -/
def strC (ws : List ByteArray) (i : Nat) (_ : Nat) : Value := .string ((ws[i]?).getD ⟨#[]⟩)
def Words (B : Nat) (w : World) (v : Value) (ws : List ByteArray) : Prop := RowE B 9 1 w v ws.length (strC ws)
theorem words_app (B : Nat) (w : World) (v : Value) (ws : List ByteArray) (s : ByteArray) (h : Words B w v ws) (hB : B ≤ w.heap.size) (hn : ws.length ≤ 1000) :
    ∃ v' w', Sem.run Tryz.prog (Builtin.append_ #[38, 38] 38 #[v, .slice (some ⟨w.heap.size, 0, none⟩) 1 1]) (w.alloc (.cells #[.string s] 9)) = .ok v' w' ∧ Words B w' v' (ws ++ [s]) ∧ Upd (fun x => some x = v.ownBlock) w w' := by
  obtain ⟨v', w', h1, h2, h3⟩ := appOne (zv := .string ⟨#[]⟩) (z := 1) (bytes := 16) Tryz.underlying38 (by kernel_rfl) (by omega) rfl (by omega) B w v ws.length (strC ws) (strC (ws ++ [s])) h hB [.string s] rfl (by intro u hu; simp at hu; subst hu; rfl)
    (fun i j hi _ => by unfold strC; rw [List.getElem?_append_left hi])
    (fun j hj => by
      obtain rfl : j = 0 := by omega
      unfold strC
      simp) (by omega)
  exact ⟨v', w', h1, by unfold Words; rw [List.length_append]; exact h2, h3⟩
theorem flat_str (ws : List ByteArray) : flatL (strC ws) ws.length 1 = ws.map Value.string := by
  apply List.ext_getElem?
  intro k
  by_cases hk : k < ws.length
  · have := flatL_get (c := strC ws) (z := 1) (n := ws.length) (i := k) (j := 0) hk (by omega)
    rw [Nat.mul_one, Nat.add_zero] at this
    rw [this]
    unfold strC
    simp [hk]
  · rw [List.getElem?_eq_none (by rw [flatL_len]; omega), List.getElem?_eq_none (by simp; omega)]
theorem words_new (w : World) (l : List ByteArray) (hl : l.length ≤ 1000) : Words w.heap.size (w.alloc (.cells (l.map Value.string).toArray 9)) (.slice (some ⟨w.heap.size, 0, none⟩) l.length l.length) l := by
  refine ⟨by rw [flat_str]; simp, .inr ⟨w.heap.size, l.length, _, rfl, Nat.le_refl _, heap_alloc_new w _, Nat.le_refl _, by unfold maxLen; omega, by simp, ?_⟩⟩
  rw [flat_str, Nat.mul_one]
  exact List.take_of_length_le (by simp)
theorem words_cells {B : Nat} {w : World} {v : Value} {xs : List ByteArray} (h : Words B w v xs) (hn : 0 < xs.length) :
    ∃ g cap, v = .slice (some ⟨g, 0, none⟩) xs.length cap ∧ g < w.heap.size ∧ xs.length ≤ cap ∧ ∀ (j : Nat) x, xs[j]? = some x → w.cell? ⟨g, 0 + j, none⟩ = some (.string x) := by
  have hc := fun g hg => h.own.cells (g := g) hg
  rcases h.own.2 with ⟨_, h0⟩ | ⟨g, cap, cur, rfl, hB, hg, hcap, _⟩
  · omega
  · refine ⟨g, cap, rfl, (Array.getElem?_eq_some_iff.1 hg).1, hcap, fun j x hx => ?_⟩
    have := hc g rfl j (.string x) (by rw [flat_str]; simp [hx])
    have hadd : (⟨g, 0, none⟩ : Addr).add j = ⟨g, 0 + j, none⟩ := by unfold Addr.add; split <;> simp_all
    rw [hadd] at this
    exact this
theorem words_apart {B : Nat} {w : World} {v vn : Value} {xs : List ByteArray} {L : List Int} {b : Nat} (h : Words B w v xs) (g : Nums w vn L b) : ∀ k, some k = v.ownBlock → B ≤ k ∧ k ≠ b := by
  intro k hk
  refine ⟨(h.own.lt k hk.symm).1, ?_⟩
  rintro rfl
  rcases h.own.2 with ⟨rfl, _⟩ | ⟨q, cap, cur, rfl, hB, hg, hcap, _⟩
  · simp [Value.ownBlock] at hk
  · simp [Value.ownBlock] at hk
    subst hk
    obtain ⟨_, cur2, _, g1, _⟩ := g.ex
    rw [hg] at g1
    injection g1 with g1
    injection g1 with _ g1
    exact absurd g1 (by decide)
def decB (x : Int) : ByteArray := ⟨(Lib.decDigits x.toNat).toArray⟩

set_option maxHeartbeats 2000000 in
theorem joined_any (w0 w : World) (B : Nat) (vs vn : Value) (ws : List ByteArray) (L : List Int) (bn : Nat) (R : List UInt8) (hW : Words B w vs ws) (hN : Nums w vn L bn) (h0 : Below w0.heap.size w0 w) (hB0 : w0.heap.size ≤ B) (hB : B ≤ w.heap.size) (hp : Pow w0)
    (hws : 0 < ws.length ∧ ws.length ≤ 8) (hL8 : L.length ≤ 8) (hL : ∀ x ∈ L, 0 ≤ x ∧ x ≤ 1000000000) (hR : Lib.join ((ws ++ L.map decB).map (·.data.toList)) [32] = R) (hRl : R.length ≤ 1000) :
    Calls Tryz.prog 57 #[vs, vn] w fun e w' => e = .returned (.string ⟨R.toArray⟩) ∧ Below B w w' := by
  obtain ⟨cn, rfl⟩ := hN.shape
  obtain ⟨ps, cs, rfl⟩ := RowE.shape hW
  have HW := Lib.hid hW
  have HN := Lib.hid hN
  have HL := Lib.hid hL
  have HR := Lib.hid hR
  have H0 := Lib.hid h0
  have HP := Lib.hid hp
  clear hW hN hL hR h0 hp
  go_enter Tryz.func57, Tryz.ntmps57
  go_wp2_with fail
  go_loopw [9, 0, 6] (fun i out _ wr => ∃ (k : Nat) (out' : Value), i = .int .i64 k ∧ out' = out ∧ k ≤ L.length ∧ Words B wr out' (ws ++ (L.take k).map decB) ∧ Nums wr (.slice (some ⟨bn, 0, none⟩) L.length cn) L bn ∧ Below B w wr) (fun i _ _ _ => L.length - (intOf i).toNat)
  case atStart => exact ⟨0, _, rfl, rfl, Nat.zero_le _, by simpa using HW.out, HN.out, Below.refl _ _⟩
  case round =>
    obtain ⟨k, out, rfl, rfl, hk, hW, hN, hb⟩ := hrel
    obtain ⟨po, co, rfl⟩ := RowE.shape hW
    have HW2 := Lib.hid hW
    have HN2 := Lib.hid hN
    have HB2 := Lib.hid hb
    have hsz : B ≤ wr.heap.size := Nat.le_trans hB hb.size
    clear hW hN hb
    have hlen : (ws ++ (L.take k).map decB).length = ws.length + k := by simp; omega
    by_cases hlt : k < L.length
    · obtain ⟨x, hx⟩ : ∃ x, L[k]? = some x := ⟨L[k], List.getElem?_eq_getElem hlt⟩
      have hc : wr.cell? ⟨bn, k, none⟩ = some (.int .i64 x) := HN2.out.cell k x hx
      have hkI : (k : Int) < L.length := by omega
      have hxb := HL.out x (List.mem_of_getElem? hx)
      have HX := Lib.hid hx
      clear hx
      go_wp2_with fail
      refine (formatInt_any x _ hxb.1 hxb.2 (pow_below HP.out (H0.out.trans (HB2.out.mono hB0)))).mono ?_
      rintro e w2 ⟨rfl, b2⟩
      have W2 := RowE.next HW2.out b2
      have N2 := HN2.out.next b2
      have hsz2 : B ≤ w2.heap.size := Nat.le_trans hsz b2.size
      have C2 := HB2.out.trans (b2.mono hsz)
      clear b2
      obtain ⟨v', w', hr, W3, u3⟩ := words_app B w2 _ (ws ++ (L.take k).map decB) (decB x) W2 hsz2 (by omega)
      rw [hlen] at hr
      unfold decB at hr
      have ha := words_apart W2 N2
      have N3 := Lib.hid (N2.keep (u3.block bn N2.lt (fun e => (ha bn e).2 rfl)))
      have C3 := Lib.hid (C2.trans (u3.below (B := B) hsz2 (fun q _ e => (ha q e).1)))
      have HW3 := Lib.hid W3
      clear W2 N2 C2 u3 ha W3
      go_wp2_with (at_builtin; refine mem.wpList_appT hr rfl _ _ rfl rfl rfl rfl ?_)
      go_roundw
      case rel => exact ⟨k + 1, v', by go_num, rfl, hlt, by rw [List.take_add_one, HX.out, Option.toList_some, List.map_append, ← List.append_assoc]; exact HW3.out, N3.out, C3.out⟩
      case measure => simp [intOf]; omega
    · obtain rfl : k = L.length := by omega
      obtain ⟨g, cap, he, hg, hcap, hcells⟩ := words_cells HW2.out (by omega)
      rw [List.take_length] at he hcap hcells
      injection he with e1 _ e3
      subst e1 e3
      have hj := Tryz.strings_Join g 0 _ (ws ++ L.map decB) ⟨#[32]⟩ _ hcells hg (by simp; omega) hcap (by rw [show (ByteArray.mk #[32]).data.toList = [32] from rfl, HR.out]; omega)
      rw [show (ws ++ L.map decB).length = ws.length + L.length by simp, show (ByteArray.mk #[32]).data.toList = [32] from rfl, HR.out] at hj
      have HJ := Lib.hid hj
      clear hcells hj
      go_wp2_with fail
      refine HJ.out.mono ?_
      rintro e w2 ⟨rfl, b2⟩
      go_wp2_with fail
      go_ret
      exact ⟨rfl, HB2.out.trans (b2.mono hsz)⟩
theorem join_node (q : Nod) : Lib.join (([⟨#[110, 111, 100, 101]⟩, q.s] ++ [q.lo, q.hi].map decB).map (·.data.toList)) [32] = nodeL q := by
  unfold Lib.join nodeL decB
  simp [List.intercalate, numsL]
set_option maxHeartbeats 400000 in
theorem nodeLine_any (x : Nod) (w : World) (hs : x.s.size ≤ 9223372036854775807) (hp : Pow w) :
    Calls Tryz.prog 32 #[.agg #[.string x.s, .int .i64 x.lo, .int .i64 x.hi]] w (StrPost w (nodeT x)) := by
  have HP := Lib.hid hp
  clear hp
  have A1 := boxedN w x 55
  have C1 : Below w.heap.size w _ := below_new w (.cells #[.string x.s, .int .i64 x.lo, .int .i64 x.hi] 55)
  go_enter Tryz.func32, Tryz.ntmps32
  go_wp2_with fail
  generalize hW : w.alloc (Obj.cells #[.string x.s, .int .i64 x.lo, .int .i64 x.hi] 55) = w1 at *
  clear hW
  have hs1 := C1.size
  have hl1 := A1.lt
  refine (isNode_any x _ hs).mono ?_
  rintro e w2 ⟨rfl, b2⟩
  have A2 := A1.below b2 hl1
  have C2 := C1.trans (b2.mono hs1)
  have hs2 := Nat.le_trans hs1 b2.size
  have hl2 := A2.lt
  clear A1 C1 b2
  cases hb : nodB x
  · have hT : Hid (nodeT x = []) := Lib.hid (by unfold nodeT; rw [hb]; rfl)
    go_wp2_with fail
    go_ret
    exact ⟨ret_str (by rw [hT.out]), C2⟩
  · have hT : Hid (nodeT x = nodeL x) := Lib.hid (by unfold nodeT; rw [hb]; rfl)
    have hbd := nod_bd hb
    have hln := nodeL_len hb
    have hd1 := hbd.2.1
    have hd2 := hbd.2.2
    have hz := hbd.1
    clear hbd
    have q0 : w2.cell? ⟨w.heap.size, 0, none⟩ = some (.string x.s) := A2.cell 0 (by omega)
    have q1 : w2.cell? ⟨w.heap.size, 1, none⟩ = some (.int .i64 x.lo) := A2.cell 1 (by omega)
    have q2 : w2.cell? ⟨w.heap.size, 2, none⟩ = some (.int .i64 x.hi) := A2.cell 2 (by omega)
    have W3 := words_new w2 [⟨#[110, 111, 100, 101]⟩, x.s] (by simp)
    have W4 := RowE.next W3 (below_new _ (.cells #[.int .i64 x.lo, .int .i64 x.hi] 2))
    have NA := Nums.new (w2.alloc (.cells #[.string ⟨#[110, 111, 100, 101]⟩, .string x.s] 9)) [x.lo, x.hi]
    have K4 : Below w2.heap.size w2 ((w2.alloc (.cells #[.string ⟨#[110, 111, 100, 101]⟩, .string x.s] 9)).alloc (.cells #[.int .i64 x.lo, .int .i64 x.hi] 2)) := (below_new w2 _).trans ((below_new _ _).mono (by simp))
    have hsA : w2.heap.size ≤ ((w2.alloc (.cells #[.string ⟨#[110, 111, 100, 101]⟩, .string x.s] 9)).alloc (.cells #[.int .i64 x.lo, .int .i64 x.hi] 2)).heap.size := K4.size
    have C4 := C2.trans (K4.mono hs2)
    have hj := joined_any w _ w2.heap.size _ _ [⟨#[110, 111, 100, 101]⟩, x.s] [x.lo, x.hi] _ (nodeL x) W4 NA C4 hs2 hsA HP.out ⟨by simp, by simp⟩ (by simp) (fun y hy => by rcases List.mem_cons.1 hy with rfl | hy; omega; rcases List.mem_cons.1 hy with rfl | hy; omega; cases hy) (join_node x) (by omega)
    have e1 : (w2.alloc (.cells #[.string ⟨#[110, 111, 100, 101]⟩, .string x.s] 9)).heap.size = w2.heap.size + 1 := by simp
    have HJ : Hid (Calls Tryz.prog 57 #[.slice (some ⟨w2.heap.size, 0, none⟩) 2 2, .slice (some ⟨w2.heap.size + 1, 0, none⟩) 2 2] ((w2.alloc (.cells #[.string ⟨#[110, 111, 100, 101]⟩, .string x.s] 9)).alloc (.cells #[.int .i64 x.lo, .int .i64 x.hi] 2)) fun e w' => e = .returned (.string ⟨(nodeL x).toArray⟩) ∧ Below w2.heap.size ((w2.alloc (.cells #[.string ⟨#[110, 111, 100, 101]⟩, .string x.s] 9)).alloc (.cells #[.int .i64 x.lo, .int .i64 x.hi] 2)) w') := Lib.hid (by rw [e1] at hj; exact hj)
    have HC4 := Lib.hid C4
    clear W3 W4 NA K4 C4 hj e1
    go_wp2_with fail
    trace_state
    refine HJ.out.mono ?_
    rintro e w5 ⟨rfl, b5⟩
    go_wp2_with fail
    go_ret
    exact ⟨ret_str (by rw [hT.out]), HC4.out.trans (b5.mono hs2)⟩
end Go.Proofs.YtbenloeomjdkcaaGreatDoor.text
