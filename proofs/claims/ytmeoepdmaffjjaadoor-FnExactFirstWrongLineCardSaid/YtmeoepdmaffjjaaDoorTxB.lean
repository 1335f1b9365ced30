/-
  Lines of nodes in the program: joined words and numbers, the line of a node. Condition: the library's table of powers of ten is as its text lays it.
-/
import Derived.Test.YtmeoepdmaffjjaaDoorRows
import Derived.Test.YtmeoepdmaffjjaaDoorTxA
import Derived.Test.YtmeoepdmaffjjaaDoorRowE
import Derived.Test.YtmeoepdmaffjjaaDoorShelfF
import Derived.Lib.Join
import Derived.WalkKit
import Derived.ProofKit
import Derived.Lib.Hide
import Derived.Lib.LaidTab
import Derived.Lib.AppendIntMem
import Derived.OwnWalk
namespace Go.Proofs.YtmeoepdmaffjjaaDoor.text
open Go.RowKit Go.Proofs.YtmeoepdmaffjjaaDoor.mem
set_option linter.unusedVariables false
set_option maxRecDepth 100000

theorem var_below {P : Program} {w w' : World} {n : String} {cs : Array Value} (h : w.var? P n = some cs) (hb : Below w.heap.size w w') : w'.var? P n = some cs := by
  unfold World.var? at h ⊢
  cases hg : P.globalNamed n with
  | none => simp [hg] at h
  | some g =>
    simp only [hg, Option.bind_some] at h ⊢
    have hlt : g < w.heap.size := by
      rcases Nat.lt_or_ge g w.heap.size with h1 | h1
      · exact h1
      · simp [Array.getElem?_eq_none h1] at h
    rw [hb.block g hlt]
    exact h
/-- the library's table of powers of ten -/
def Pow (w : World) : Prop := Lib.TabIs Tryd.prog w "internal/strconv.uint64pow10" .u64 Lib.pow10Tab
theorem pow_below {w w' : World} (h : Pow w) (hb : Below w.heap.size w w') : Pow w' := var_below h hb
theorem formatInt_any (x : Int) (w : World) (h0 : 0 ≤ x) (h1 : x ≤ 1000000000) (hp : Pow w) :
    Calls Tryd.prog 61 #[.int .i64 x, .int .i64 10] w (StrPost w (Lib.decDigits x.toNat)) := by
  obtain ⟨n, rfl⟩ := Int.eq_ofNat_of_zero_le h0
  refine (Tryd.strconv_FormatInt_10 n (by omega) (by omega) w hp).mono ?_
  rintro e w' ⟨rfl, k, os, rfl⟩
  refine ⟨?_, Lib.below_grow _ _ (Nat.le_refl _) _ _⟩
  have e1 : Lib.itoa (n : Int) = Lib.decDigits n := by unfold Lib.itoa; rw [if_neg (by omega)]; rfl
  rw [e1, Int.toNat_natCast]

/-- the cells of words -/
def strC (ws : List ByteArray) (i : Nat) (_ : Nat) : Value := .string ((ws[i]?).getD ⟨#[]⟩)
def Words (B : Nat) (w : World) (v : Value) (ws : List ByteArray) : Prop := RowE B 9 1 w v ws.length (strC ws)
theorem words_app (B : Nat) (w : World) (v : Value) (ws : List ByteArray) (s : ByteArray) (h : Words B w v ws) (hB : B ≤ w.heap.size) (hn : ws.length ≤ 1000) :
    ∃ v' w', Sem.run Tryd.prog (Builtin.append_ #[34, 34] 34 #[v, .slice (some ⟨w.heap.size, 0, none⟩) 1 1]) (w.alloc (.cells #[.string s] 9)) = .ok v' w' ∧ Words B w' v' (ws ++ [s]) ∧ Upd (fun x => some x = v.ownBlock) w w' := by
  obtain ⟨v', w', h1, h2, h3⟩ := appOne (zv := .string ⟨#[]⟩) (z := 1) (bytes := 16) Tryd.underlying34 (by kernel_rfl) (by omega) rfl (by omega) B w v ws.length (strC ws) (strC (ws ++ [s])) h hB [.string s] rfl (by intro u hu; simp at hu; subst hu; rfl)
    (fun i j hi _ => by unfold strC; rw [List.getElem?_append_left hi])
    (fun j hj => by
      obtain rfl : j = 0 := by omega
      unfold strC
      simp) (by omega)
  exact ⟨v', w', h1, by unfold Words; rw [List.length_append]; exact h2, h3⟩
theorem flat_str (ws : List ByteArray) : flatL (strC ws) ws.length 1 = ws.map Value.string := by
  apply List.ext_getElem?
  intro k
  by_cases hk : k < ws.length
  · have := flatL_get (c := strC ws) (z := 1) (n := ws.length) (i := k) (j := 0) hk (by omega)
    rw [Nat.mul_one, Nat.add_zero] at this
    rw [this]
    unfold strC
    simp [hk]
  · rw [List.getElem?_eq_none (by rw [flatL_len]; omega), List.getElem?_eq_none (by simp; omega)]
theorem words_new (w : World) (l : List ByteArray) (hl : l.length ≤ 1000) : Words w.heap.size (w.alloc (.cells (l.map Value.string).toArray 9)) (.slice (some ⟨w.heap.size, 0, none⟩) l.length l.length) l := by
  refine ⟨by rw [flat_str]; simp, .inr ⟨w.heap.size, l.length, _, rfl, Nat.le_refl _, heap_alloc_new w _, Nat.le_refl _, by unfold maxLen; omega, by simp, ?_⟩⟩
  rw [flat_str, Nat.mul_one]
  exact List.take_of_length_le (by simp)
theorem words_cells {B : Nat} {w : World} {v : Value} {xs : List ByteArray} (h : Words B w v xs) (hn : 0 < xs.length) :
    ∃ g cap, v = .slice (some ⟨g, 0, none⟩) xs.length cap ∧ g < w.heap.size ∧ xs.length ≤ cap ∧ ∀ (j : Nat) x, xs[j]? = some x → w.cell? ⟨g, 0 + j, none⟩ = some (.string x) := by
  have hc := fun g hg => h.own.cells (g := g) hg
  rcases h.own.2 with ⟨_, h0⟩ | ⟨g, cap, cur, rfl, hB, hg, hcap, _⟩
  · omega
  · refine ⟨g, cap, rfl, (Array.getElem?_eq_some_iff.1 hg).1, hcap, fun j x hx => ?_⟩
    have := hc g rfl j (.string x) (by rw [flat_str]; simp [hx])
    have hadd : (⟨g, 0, none⟩ : Addr).add j = ⟨g, 0 + j, none⟩ := by unfold Addr.add; split <;> simp_all
    rw [hadd] at this
    exact this
theorem words_apart {B : Nat} {w : World} {v vn : Value} {xs : List ByteArray} {L : List Int} {b : Nat} (h : Words B w v xs) (g : Nums w vn L b) : ∀ k, some k = v.ownBlock → B ≤ k ∧ k ≠ b := by
  intro k hk
  refine ⟨(h.own.lt k hk.symm).1, ?_⟩
  rintro rfl
  rcases h.own.2 with ⟨rfl, _⟩ | ⟨q, cap, cur, rfl, hB, hg, hcap, _⟩
  · simp [Value.ownBlock] at hk
  · simp [Value.ownBlock] at hk
    subst hk
    obtain ⟨_, cur2, _, g1, _⟩ := g.ex
    rw [hg] at g1
    injection g1 with g1
    injection g1 with _ g1
    exact absurd g1 (by decide)
def decB (x : Int) : ByteArray := ⟨(Lib.decDigits x.toNat).toArray⟩

theorem join_node (q : Nod) : Lib.join (([⟨#[110, 111, 100, 101]⟩, q.s] ++ [q.lo, q.hi].map decB).map (·.data.toList)) [32] = nodeL q := by
  unfold Lib.join nodeL decB
  simp [List.intercalate, numsL]
end Go.Proofs.YtmeoepdmaffjjaaDoor.text
