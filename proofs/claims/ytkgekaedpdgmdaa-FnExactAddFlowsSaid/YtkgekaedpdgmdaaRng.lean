/-
  A range over an iterator that keeps its state in two own blocks: the iterator's contract and the law of the statement for its caller. Conditions: as each states.
-/
import Derived.Test.YtkgekaedpdgmdaaRows
import Derived.Test.YtkgekaedpdgmdaaCs
import Derived.RangeFuncNested
import Derived.RangeFuncLeaves
import Derived.RangeFuncCalls
namespace Go.Proofs.Ytkgekaedpdgmdaa.mem
open Go.RowKit
set_option linter.unusedVariables false

theorem Upd.alloc (X : Nat → Prop) (w : World) (o : Obj) : Upd X w (w.alloc o) := Upd.of_below (below_new w o)
theorem Upd.putObj (X : Nat → Prop) (w : World) (l : Nat) (o : Obj) (h : X l) : Upd X w (w.putObj l o) :=
  ⟨rfl, rfl, rfl, by simp, fun k _ hx => World.putObj_heap_other (fun e => hx (by rw [e]; exact h))⟩

theorem Upd.more {X : Nat → Prop} {w1 w2 w3 : World} (h : Upd X w1 w2) (k : Upd (fun b => X b ∨ w1.heap.size ≤ b) w2 w3) : Upd X w1 w3 :=
  ⟨k.os.trans h.os, k.tape.trans h.tape, k.output.trans h.output, Nat.le_trans h.size k.size, fun i hi hx => (k.block i (Nat.lt_of_lt_of_le hi h.size) (by rintro (e | e); exact hx e; omega)).trans (h.block i hi hx)⟩

/-- the contract of an iterator value: it reads the blocks R and lays two own blocks; a round may write into Y, and hands on a Y of these and of what is new -/
def SeqV {α : Type} (F : Fence) (n : Nat) (P : Program) (gf : Nat) (lb : Array Value) (encs : α → Array Value) (xs : List α) (R : Nat → Prop) (W0 : World) : Prop :=
  ∀ (l : Nat) (Y0 : Nat → Prop) (J : List α → (Nat → Prop) → World → Prop) (W : World),
    Upd (fun b => ¬ R b) W0 W →
    (∀ b, Y0 b → b < W.heap.size ∧ ¬ R b) →
    (∀ pre Y A B, J pre Y A → Upd (fun b => b = W.heap.size ∨ b = W.heap.size + 1) A B → J pre Y B) →
    (∀ pre x post Y A, xs = pre ++ x :: post → J pre Y A → W.heap.size + 2 ≤ A.heap.size → (∀ b, Y b → b < A.heap.size ∧ b ≠ W.heap.size ∧ b ≠ W.heap.size + 1) →
      YieldAt F (n - 1) P l (encs x) A fun e B => e = .returned (.bool true) ∧ ∃ Y', J (pre ++ [x]) Y' B ∧ Upd Y A B ∧ ∀ b, Y' b → Y b ∨ (A.heap.size ≤ b ∧ b < B.heap.size)) →
    J [] Y0 W →
    CallsIn F n P gf (#[.func (.yield l) #[] #[]] ++ lb) W fun e B => (∃ v, e = .returned v) ∧ ∃ Y', J xs Y' B

/-- how a round is left: off its end -/
def postV {α : Type} (Y : Nat → Prop) (I : List α → (Nat → Prop) → World → Prop) (s : Nat) (xs : List α) (W : World) : Exit → Act → World → Prop
  | .normal, _, W' => ∃ Y', Upd (fun b => Y b ∨ s ≤ b) W W' ∧ I xs Y' W' ∧ ∀ b, Y' b → Y b ∨ (s ≤ b ∧ b < W'.heap.size)
  | _, _, _ => False

theorem wpIn_range_vis {F : Fence} {n : Nat} {P : Program} {α : Type} {g : Operand} {ps : Array Tmp} {assign body : Code} {Q : Exit → Act → World → Prop} {a : Act} {w : World}
    (hro : F.round = none) (h1 : 1 ≤ n) {gf : Nat} {lb : Array Value} (hg : a.eval g = .func (.func gf) #[] lb) (hFg : F.fn gf) (eg : ∀ args w, (callFunc gf args).run P w = .ok (.enter gf args) w)
    {encs : α → Array Value} {xs : List α} {R : Nat → Prop} {w0 : World} (hseq : SeqV F (n - 1) P gf lb encs xs R w0) (hb0 : Upd (fun b => ¬ R b) w0 w) (hR : ∀ b, R b → b < w.heap.size)
    (hps : ∀ x, (encs x).size = ps.size) (Y0 : Nat → Prop) (hY0 : ∀ b, Y0 b → b < w.heap.size ∧ ¬ R b)
    (I : List α → (Nat → Prop) → World → Prop) (hI : ∀ pre Y A B, I pre Y A → Upd (fun b => w.heap.size ≤ b ∧ b < w.heap.size + 4) A B → I pre Y B) (h0 : I [] Y0 w)
    (hround : ∀ (l : Nat) (pre : List α) (x : α) (post : List α) (Y : Nat → Prop) (W : World), xs = pre ++ x :: post → I pre Y W → w.heap.size + 4 ≤ W.heap.size →
      (∀ b, Y b → b < W.heap.size ∧ ¬ (w.heap.size ≤ b ∧ b < w.heap.size + 4)) →
      assign.wpIn (F.inRound l) (n - 1 - 1) P (Exit.then (fun a₁ w₁ => Upd Y W w₁ ∧
        ∀ Wb, Upd (fun b => w.heap.size ≤ b ∧ b < w.heap.size + 4) w₁ Wb → body.wpIn (F.inRound l) (n - 1 - 1) P (postV Y I W.heap.size (pre ++ [x]) Wb) a₁ Wb) (fun _ _ _ => False))
        { tmps := (ps.zip (encs x)).foldl (fun t (p, v) => t.setIfInBounds p v) a.tmps, defers := [] } W)
    (hdone : ∀ (Y : Nat → Prop) (W : World), I xs Y W → W.heap[w.heap.size]? = some (.deferred (some [])) → Q .normal { a with defers := { target := .collected w.heap.size, args := #[] } :: a.defers } W) :
    (Code.rangeFunc g ps assign body).wpIn F n P Q a w := by
  refine wpIn_rangeFunc ?_
  intro fn hfn
  rw [hro]
  obtain ⟨rec, hrec⟩ : ∃ rec : LoopState → Option Code → Loop, rec = fun st pe => { state := st, pending := pe, fn, tmps := a.tmps, params := ps, assign, body, defers := w.heap.size } := ⟨_, rfl⟩
  obtain ⟨W1, hW1⟩ : ∃ W1, (w.alloc (.deferred (some []))).alloc (.loop (rec .ready none)) = W1 := ⟨_, rfl⟩
  have hs1 : W1.heap.size = w.heap.size + 2 := by rw [← hW1]; simp
  have hL1 : W1.heap[w.heap.size + 1]? = some (.loop (rec .ready none)) := by
    rw [← hW1]; have := World.alloc_heap_new (w.alloc (.deferred (some []))) (.loop (rec .ready none)); rwa [World.size_alloc] at this
  have hK1 : W1.heap[w.heap.size]? = some (.deferred (some [])) := by
    rw [← hW1]; exact (Below.heap_alloc _ _ _ (by simp)).trans (World.alloc_heap_new w _)
  have hU1 : ∀ Y, Upd Y w W1 := fun Y => by rw [← hW1]; exact (Upd.alloc Y _ _).trans (Upd.alloc Y _ _)
  have hI1 : I [] Y0 W1 := hI _ _ _ _ h0 (hU1 _)
  refine ⟨w.heap.size + 1, [{ target := .collected w.heap.size, args := #[] }], W1, { target := .fn (.func gf) lb, args := #[.func (.yield (w.heap.size + 1)) #[] #[]] }, W1, gf,
    #[.func (.yield (w.heap.size + 1)) #[] #[]] ++ lb, W1, ?_, ?_, ?_, ?_, fun _ => h1, ?_⟩
  · rw [← hW1, hrec]; exact run_enterLoop_outer _ _ _ _ _
  · simp only [resolve, hg]
    simp [go_sem]
  · intro f' hf'; simp [Target.leads] at hf'; subst hf'; exact hFg
  · simp [invoke, go_sem, eg]
  · clear hW1
    refine (hseq (w.heap.size + 1) (fun b => Y0 b ∨ b = w.heap.size + 1)
      (fun pre Y W => ∃ Z, I pre Z W ∧ (∀ b, Y b ↔ Z b ∨ b = w.heap.size + 1) ∧ (∀ b, Z b → ¬ (w.heap.size ≤ b ∧ b < w.heap.size + 4)) ∧ W.heap[w.heap.size + 1]? = some (.loop (rec .ready none)) ∧ W.heap[w.heap.size]? = some (.deferred (some []))) W1 (hb0.trans (hU1 _)) ?_ ?_ ?_
      ⟨Y0, hI1, fun _ => Iff.rfl, fun b hb => by have := (hY0 b hb).1; omega, hL1, hK1⟩).mono ?_
    · rintro b (h | rfl)
      · exact ⟨by have := (hY0 b h).1; omega, (hY0 b h).2⟩
      · exact ⟨by omega, fun h => by have := hR _ h; omega⟩
    · rintro pre Y A B ⟨Z, hi, hZ, hz, hl, hk⟩ hu
      have l1 := (Array.getElem?_eq_some_iff.1 hl).1
      exact ⟨Z, hI _ _ _ _ hi (hu.mono fun k _ e => by omega), hZ, hz, (hu.block _ l1 (by omega)).trans hl, (hu.block _ (by omega) (by omega)).trans hk⟩
    · rintro pre x post Y W hx ⟨Z, hi, hZ, hz, hl, hk⟩ hsz hY
      have hy := run_yield (P := P) (args := encs x) hl (by rw [hrec]; exact hps x)
      rw [hrec] at hy
      refine ⟨fn, _, assign, body, hy, roundIn_of_wpIn hfn (wpIn_mono (hround _ pre x post Z W hx hi (by omega) (fun b hb => ⟨(hY b ((hZ b).2 (.inl hb))).1, hz b hb⟩)) ?_)⟩
      clear hy
      rintro e a1 w1 hp
      cases e with
      | normal =>
        obtain ⟨hu1, hb1⟩ := hp
        have nZ : ¬ Z (w.heap.size + 1) := fun h => hz _ h (by omega)
        have nZ0 : ¬ Z w.heap.size := fun h => hz _ h (by omega)
        have hl1 := (hu1.block _ (by omega) nZ).trans hl
        have hk1 := (hu1.block _ (by omega) nZ0).trans hk
        have hz1 := hu1.size
        obtain ⟨W2, hW2⟩ : ∃ W2, w1.putObj (w.heap.size + 1) (.loop { rec .ready none with state := .busy }) = W2 := ⟨_, rfl⟩
        have hl2 : W2.heap[w.heap.size + 1]? = some (.loop { rec .ready none with state := .busy }) := by rw [← hW2]; exact World.putObj_heap_same (by omega)
        have hk2 : W2.heap[w.heap.size]? = some (.deferred (some [])) := by rw [← hW2]; exact (World.putObj_heap_other (by omega)).trans hk1
        have hu2 : ∀ Y : Nat → Prop, Y (w.heap.size + 1) → Upd Y w1 W2 := fun Y hY => by rw [← hW2]; exact Upd.putObj _ _ _ _ hY
        refine ⟨W2, by rw [← hW2]; exact run_beginRound hl1 (by rw [hrec]), ?_⟩
        refine wpIn_mono (hb1 W2 (hu2 _ (by omega))) ?_
        rintro e a3 W3 hp
        cases e with
        | normal =>
          obtain ⟨Z', hu3, hi3, hZ'⟩ := hp
          have hz2 := (hu2 (fun _ => True) trivial).size
          have hz3 := hu3.size
          have hl3 := (hu3.block _ (by omega) (by rintro (h | h); exact nZ h; omega)).trans hl2
          have hk3 := (hu3.block _ (by omega) (by rintro (h | h); exact nZ0 h; omega)).trans hk2
          have hr := run_endRound (P := P) none hl3
          rw [hrec] at hr hl3
          obtain ⟨W4, hW4⟩ : ∃ W4, W3.putObj (w.heap.size + 1) (.loop (rec .ready none)) = W4 := ⟨_, rfl⟩
          have hu4 : ∀ Y : Nat → Prop, Y (w.heap.size + 1) → Upd Y W3 W4 := fun Y hY => by rw [← hW4]; exact Upd.putObj _ _ _ _ hY
          have hs4 : W4.heap.size = W3.heap.size := by rw [← hW4]; simp
          refine ⟨_, W4, by rw [← hW4, hrec]; exact hr, rfl, fun b => Z' b ∨ b = w.heap.size + 1, ⟨Z', hI _ _ _ _ hi3 (hu4 _ (by omega)), fun _ => Iff.rfl, fun b hb => ?_, by rw [← hW4]; exact World.putObj_heap_same (by omega), by rw [← hW4]; exact (World.putObj_heap_other (by omega)).trans hk3⟩, ?_, ?_⟩
          · rcases hZ' b hb with h | h
            · exact hz b h
            · omega
          · refine Upd.trans (Upd.more (Upd.trans (hu1.mono fun b _ h => (hZ b).2 (.inl h)) (hu2 _ ((hZ _).2 (.inr rfl)))) (hu3.mono ?_)) (hu4 _ ((hZ _).2 (.inr rfl)))
            rintro b _ (h | h)
            · exact .inl ((hZ b).2 (.inl h))
            · exact .inr h
          · rintro b (h | rfl)
            · rcases hZ' b h with h | h
              · exact .inl ((hZ b).2 (.inl h))
              · exact .inr (by omega)
            · exact .inl ((hZ _).2 (.inr rfl))
        | _ => exact hp.elim
      | _ => exact hp.elim
    · rintro e W2 ⟨⟨v, rfl⟩, Y, Z, hi, hZ, hz, hl, hk⟩
      have hl2 := (Array.getElem?_eq_some_iff.1 hl).1
      have he := run_endLoop (P := P) hl (by rw [hrec]; simp)
      rw [hrec] at he
      exact ⟨none, _, he, hdone _ _ (hI _ _ _ _ hi (Upd.putObj _ _ _ _ (by omega))) ((World.putObj_heap_other (by omega)).trans hk)⟩
end Go.Proofs.Ytkgekaedpdgmdaa.mem
