/-
  Lines of nodes in the model: what they are, and that the model's functions write them. Conditions: as each states.
-/
import Derived.Test.YtbenloeomjdkcaaGreatDoorRows
import Derived.Test.YtbenloeomjdkcaaGreatDoorNetV
import Derived.Test.YtbenloeomjdkcaaGreatDoorText
import Derived.WalkKit
import Derived.ProofKit
import Derived.Lib.Hide
import Derived.Laws.Concat
import Derived.Deep.RegionHeld3
import Derived.OwnWalk
namespace Go.Proofs.YtbenloeomjdkcaaGreatDoor.text
open Go.RowKit Go.Proofs.YtbenloeomjdkcaaGreatDoor.mem
set_option linter.unusedVariables false
set_option maxRecDepth 100000

/-- each number behind a blank -/
def numsL : List Int → List UInt8
  | [] => []
  | x :: r => 32 :: (Lib.decDigits x.toNat ++ numsL r)
theorem numsL_app (a b : List Int) : numsL (a ++ b) = numsL a ++ numsL b := by
  induction a with
  | nil => rfl
  | cons x r ih =>
    show 32 :: (Lib.decDigits x.toNat ++ numsL (r ++ b)) = 32 :: (Lib.decDigits x.toNat ++ numsL r) ++ numsL b
    rw [ih]
    simp
theorem numsL_len {l : List Int} (h : ∀ x ∈ l, x ≤ 1000000000) : (numsL l).length ≤ 20 * l.length := by
  induction l with
  | nil => exact Nat.le_refl _
  | cons x r ih =>
    have h1 := ih (fun y hy => h y (List.mem_cons_of_mem _ hy))
    have h2 := dec_length x.toNat (by have := h x (List.mem_cons_self ..); omega)
    show (32 :: (Lib.decDigits x.toNat ++ numsL r)).length ≤ 20 * (r.length + 1)
    simp only [List.length_cons, List.length_append]
    omega
/-- a slice of numbers in a block of its own -/
structure Nums (w : World) (v : Value) (L : List Int) (b : Nat) : Prop where
  ex : ∃ cap cur, v = .slice (some ⟨b, 0, none⟩) L.length cap ∧ w.heap[b]? = some (.cells cur 2 (0, 0)) ∧ ∀ (k : Nat) x, L[k]? = some x → cur[k]? = some (.int .i64 x)
theorem Nums.cell {w : World} {v : Value} {L : List Int} {b : Nat} (h : Nums w v L b) (k : Nat) (x : Int) (hx : L[k]? = some x) : w.cell? ⟨b, k, none⟩ = some (.int .i64 x) := by
  obtain ⟨cap, cur, _, h1, h2⟩ := h.ex
  simp only [World.cell?, h1]
  simpa using h2 k x hx
theorem Nums.lt {w : World} {v : Value} {L : List Int} {b : Nat} (h : Nums w v L b) : b < w.heap.size := by
  obtain ⟨cap, cur, _, h1, h2⟩ := h.ex
  exact (Array.getElem?_eq_some_iff.1 h1).1
theorem Nums.keep {w w' : World} {v : Value} {L : List Int} {b : Nat} (h : Nums w v L b) (e : w'.heap[b]? = w.heap[b]?) : Nums w' v L b := by
  obtain ⟨cap, cur, h0, h1, h2⟩ := h.ex
  exact ⟨cap, cur, h0, e.trans h1, h2⟩
theorem Nums.next {w w' : World} {v : Value} {L : List Int} {b : Nat} (h : Nums w v L b) (g : Below w.heap.size w w') : Nums w' v L b := h.keep (g.block b h.lt)
theorem Nums.new (w : World) (L : List Int) : Nums (w.alloc (.cells (L.map (Value.int .i64)).toArray 2)) (.slice (some ⟨w.heap.size, 0, none⟩) L.length L.length) L w.heap.size :=
  ⟨L.length, _, rfl, heap_alloc_new w _, fun k x hx => by simp [hx]⟩
theorem Nums.shape {w : World} {v : Value} {L : List Int} {b : Nat} (h : Nums w v L b) : ∃ cap, v = .slice (some ⟨b, 0, none⟩) L.length cap := by
  obtain ⟨cap, cur, h0, _⟩ := h.ex
  exact ⟨cap, h0⟩

def numsL' (d : List UInt8) : List UInt8 := 32 :: (d ++ [])
theorem cat3 (a d : List UInt8) : (ByteArray.mk a.toArray ++ ByteArray.mk #[32] ++ ByteArray.mk d.toArray) = ByteArray.mk (a ++ numsL' d).toArray := by
  apply ByteArray.ext
  simp [ByteArray.data_append, numsL']

theorem decI (z : Int) (m : Nat) (w : World) (h0 : z = (m : Int)) (h1 : m ≤ 9223372036854775807) : Calls Tryz.prog 78 #[.int .i64 z] w (StrPost w (Lib.decDigits m)) := by
  subst h0
  exact dec_any m m w (Nat.le_refl _) h1
set_option maxHeartbeats 1000000 in
theorem words_any (w : World) (v : Value) (L : List Int) (b : Nat) (h : Nums w v L b) (hn : L.length ≤ 8) (hL : ∀ x ∈ L, 0 ≤ x ∧ x ≤ 1000000000) :
    Calls Tryz.prog 60 #[v] w (StrPost w (numsL L)) := by
  obtain ⟨cap, rfl⟩ := h.shape
  have H := Lib.hid h
  have HL := Lib.hid hL
  clear h hL
  go_enter Tryz.func60, Tryz.ntmps60
  go_wp2_with fail
  go_loopw [4, 3] (fun i out wr => ∃ k : Nat, i = .int .i64 k ∧ out = .string ⟨(numsL (L.take k)).toArray⟩ ∧ k ≤ L.length ∧ Below w.heap.size w wr) (fun i _ _ => L.length - (intOf i).toNat)
  case atStart => exact ⟨0, rfl, rfl, Nat.zero_le _, Below.refl _ _⟩
  case round =>
    obtain ⟨k, rfl, rfl, hk, hB⟩ := hrel
    have HB := Lib.hid hB
    clear hB
    have hlen : (numsL (L.take k)).length ≤ 160 := by
      have := numsL_len (l := L.take k) (fun x hx => (HL.out x (List.mem_of_mem_take hx)).2)
      simp only [List.length_take] at this
      omega
    by_cases hlt : k < L.length
    · obtain ⟨x, hx⟩ : ∃ x, L[k]? = some x := ⟨L[k], List.getElem?_eq_getElem hlt⟩
      have hc : wr.cell? ⟨b, k, none⟩ = some (.int .i64 x) := (H.out.next HB.out).cell k x hx
      have hkI : (k : Int) < L.length := by omega
      have hxb := HL.out x (List.mem_of_getElem? hx)
      have hd := dec_length x.toNat (by omega)
      have hs1 : w.heap.size ≤ wr.heap.size := HB.out.size
      have HX := Lib.hid hx
      clear hx
      go_wp2_with fail
      refine (decI x x.toNat _ (by omega) (by omega)).mono ?_
      rintro e w2 ⟨rfl, hb⟩
      have HB2 := Lib.hid (HB.out.trans (hb.mono hs1))
      clear hb
      go_wp2_with fail
      go_roundw
      case rel => exact ⟨k + 1, by go_num, by rw [List.take_add_one, HX.out, Option.toList_some, numsL_app, cat3]; rfl, hlt, HB2.out⟩
      case measure => simp [intOf]; omega
    · obtain rfl : k = L.length := by omega
      go_wp2_with fail
      go_ret
      exact ⟨ret_str (by rw [List.take_length]), HB.out⟩

theorem name_len {s : ByteArray} (h : nameB s = true) : s.size ≤ 8 := by
  unfold nameB at h
  simp only [Bool.and_eq_true, decide_eq_true_eq] at h
  exact h.1.2
/-- a node's line -/
def nodeL (q : Nod) : List UInt8 := [110, 111, 100, 101, 32] ++ q.s.data.toList ++ numsL [q.lo, q.hi]
def nodeT (q : Nod) : List UInt8 := if nodB q = true then nodeL q else []
theorem nod_bd {q : Nod} (h : nodB q = true) : q.s.size ≤ 8 ∧ (0 ≤ q.lo ∧ q.lo ≤ 100000000) ∧ (0 ≤ q.hi ∧ q.hi ≤ 100000000) := by
  unfold nodB at h
  simp only [Bool.and_eq_true, decide_eq_true_eq] at h
  obtain ⟨⟨⟨h1, h2⟩, h3⟩, h4⟩ := h
  exact ⟨name_len h1, by omega, by omega⟩
theorem nodeL_len {q : Nod} (h : nodB q = true) : (nodeL q).length ≤ 60 := by
  obtain ⟨h1, h2, h3⟩ := nod_bd h
  have := numsL_len (l := [q.lo, q.hi]) (fun x hx => by rcases List.mem_cons.1 hx with rfl | hx; omega; rcases List.mem_cons.1 hx with rfl | hx; omega; cases hx)
  unfold nodeL
  simp only [List.length_append, List.length_cons, List.length_nil] at this ⊢
  have e : q.s.data.toList.length = q.s.size := Array.length_toList
  omega
theorem nodeT_len (q : Nod) : (nodeT q).length ≤ 60 := by
  unfold nodeT
  split
  · exact nodeL_len (by assumption)
  · simp
theorem catN (s : ByteArray) (d : List UInt8) : (ByteArray.mk #[110, 111, 100, 101, 32] ++ s ++ ByteArray.mk d.toArray) = ByteArray.mk ([110, 111, 100, 101, 32] ++ s.data.toList ++ d).toArray := by
  apply ByteArray.ext
  simp [ByteArray.data_append]
/-- a node in a variable -/
theorem boxedN (w : World) (x : Nod) (t : TypeId) : Ob (w.alloc (.cells #[.string x.s, .int .i64 x.lo, .int .i64 x.hi] t)) w.heap.size 3 (fun k => match k with
    | 0 => .string x.s
    | 1 => .int .i64 x.lo
    | _ => .int .i64 x.hi) := Ob.new w _ _ 3 _ rfl (by intro k hk; rcases (by omega : k = 0 ∨ k = 1 ∨ k = 2) with rfl | rfl | rfl <;> rfl)

set_option maxHeartbeats 4000000 in
theorem sNodeLine_any (x : Nod) (w : World) (hs : x.s.size ≤ 9223372036854775807) :
    Calls Tryz.prog 36 #[.agg #[.string x.s, .int .i64 x.lo, .int .i64 x.hi]] w (StrPost w (nodeT x)) := by
  have A1 := boxedN w x 55
  have C1 : Below w.heap.size w _ := below_new w (.cells #[.string x.s, .int .i64 x.lo, .int .i64 x.hi] 55)
  go_enter Tryz.func36, Tryz.ntmps36
  go_wp2_with fail
  generalize hW : w.alloc (Obj.cells #[.string x.s, .int .i64 x.lo, .int .i64 x.hi] 55) = w1 at *
  clear hW
  have hs1 := C1.size
  have hl1 := A1.lt
  refine (sIsNode_any x _ hs).mono ?_
  rintro e w2 ⟨rfl, b2⟩
  have A2 := A1.below b2 hl1
  have C2 := C1.trans (b2.mono hs1)
  have hs2 := Nat.le_trans hs1 b2.size
  have hl2 := A2.lt
  clear A1 C1 b2
  cases hb : nodB x
  · have hT : Hid (nodeT x = []) := Lib.hid (by unfold nodeT; rw [hb]; rfl)
    go_wp2_with fail
    go_ret
    exact ⟨ret_str (by rw [hT.out]), C2⟩
  · have hbd := nod_bd hb
    have hT : Hid (nodeT x = nodeL x) := Lib.hid (by unfold nodeT; rw [hb]; rfl)
    have HB := Lib.hid hb
    have hd1 := hbd.2.1
    have hd2 := hbd.2.2
    have hz := hbd.1
    clear hbd
    go_wp2_with fail
    clear hb
    have q0 : w2.cell? ⟨w.heap.size, 0, none⟩ = some (.string x.s) := A2.cell 0 (by omega)
    have q1 : w2.cell? ⟨w.heap.size, 1, none⟩ = some (.int .i64 x.lo) := A2.cell 1 (by omega)
    have q2 : w2.cell? ⟨w.heap.size, 2, none⟩ = some (.int .i64 x.hi) := A2.cell 2 (by omega)
    have hl := numsL_len (l := [x.lo, x.hi]) (fun x hx => by rcases List.mem_cons.1 hx with rfl | hx; omega; rcases List.mem_cons.1 hx with rfl | hx; omega; cases hx)
    simp only [List.length_cons, List.length_nil] at hl
    have k1 : ¬ 9223372036854775807 < 5 + x.s.size := by omega
    have k2 : ¬ 9223372036854775807 < 5 + x.s.size + (numsL [x.lo, x.hi]).length := by omega
    have hAny : ∀ X : World, Below w2.heap.size w2 X → X.cell? ⟨w.heap.size, 0, none⟩ = some (.string x.s) ∧ X.cell? ⟨w.heap.size, 1, none⟩ = some (.int .i64 x.lo) ∧ X.cell? ⟨w.heap.size, 2, none⟩ = some (.int .i64 x.hi) := fun X h => ⟨(h.cell (p := ⟨_, 0, none⟩) hl2).trans q0, (h.cell (p := ⟨_, 1, none⟩) hl2).trans q1, (h.cell (p := ⟨_, 2, none⟩) hl2).trans q2⟩
    have K0 : Below w2.heap.size w2 w2.drew := ⟨rfl, rfl, rfl, Nat.le_refl _, fun _ _ => rfl⟩
    have KA : Below w2.heap.size w2 (w2.alloc (.cells #[.int .i64 x.lo, .int .i64 x.hi] 2)).drew := (below_new w2 _).trans ⟨rfl, rfl, rfl, Nat.le_refl _, fun _ _ => rfl⟩
    have hsA : w2.heap.size + 1 ≤ (w2.alloc (.cells #[.int .i64 x.lo, .int .i64 x.hi] 2)).drew.heap.size := by simp
    have NA : Nums (w2.alloc (.cells #[.int .i64 x.lo, .int .i64 x.hi] 2)).drew (.slice (some ⟨w2.heap.size, 0, none⟩) 2 2) [x.lo, x.hi] w2.heap.size := (Nums.new w2 [x.lo, x.hi]).keep rfl
    go_region_held3 (fun w' => w'.cell? ⟨w.heap.size, 0, none⟩ = some (.string x.s) ∧ w'.cell? ⟨w.heap.size, 1, none⟩ = some (.int .i64 x.lo) ∧ w'.cell? ⟨w.heap.size, 2, none⟩ = some (.int .i64 x.hi)) (first | exact hAny _ K0 | exact hAny _ KA | exact hAny _ KX)
      (first | (go_at_call 60; refine (words_any _ _ [x.lo, x.hi] _ NA (by simp) (fun y hy => by rcases List.mem_cons.1 hy with rfl | hy; omega; rcases List.mem_cons.1 hy with rfl | hy; omega; cases hy)).mono ?_; rintro e wx ⟨rfl, bx⟩; have KX : Below w2.heap.size w2 wx := KA.trans (bx.mono (by omega))))
    go_wp2_with fail
    go_ret
    exact ⟨ret_str ((catN _ _).trans (by rw [hT.out]; rfl)), C2.trans (KX.mono hs2)⟩
end Go.Proofs.YtbenloeomjdkcaaGreatDoor.text
