/-
  The parser of networks: a node by its name, and the line of a pipe where no node is there yet. Conditions: as each states.
-/
import Derived.Test.YtmeoepdmaffjjaaGreatDoorRows
import Derived.Test.YtmeoepdmaffjjaaGreatDoorPb
import Derived.WalkKit
import Derived.ProofKit
import Derived.Lib.Hide
import Derived.Deep.RegionHeld3
import Derived.OwnWalk
namespace Go.Proofs.YtmeoepdmaffjjaaGreatDoor.text
open Go.RowKit Go.Proofs.YtmeoepdmaffjjaaGreatDoor.mem
set_option linter.unusedVariables false
set_option maxRecDepth 100000

def NodePost (w : World) (b : Nat) (vN vP : Value) (k : Int) (va vc : ByteArray → Int) (ws : List ByteArray) (e : Ending) (w' : World) : Prop :=
  (e = .panicked fell ∧ Pan b k (· = b) w w' ∧ ∀ x r, ws = x :: r → vc x ≠ 0) ∨
  ∃ x r vW, ws = x :: r ∧ vc x = 0 ∧ e = .returned (.int .i64 (va x)) ∧ Ob w' b 4 (parC vN vP k vW) ∧ Ws w' b vW r ∧ Upd (· = b) w w'
set_option maxHeartbeats 4000000 in
theorem node_any (w : World) (b : Nat) (pN pP : Option Addr) (n cN m cP : Nat) (vW : Value) (k : Int) (va vc : ByteArray → Int) (ws : List ByteArray) (h : Ob w b 4 (parC (.slice pN n cN) (.slice pP m cP) k vW)) (g : Ws w b vW ws) (hsz : ∀ x ∈ ws, x.size ≤ 281474976710656)
    (hnn : ∀ (X : World) (s : ByteArray), Upd (· = b) w X → s.size ≤ 281474976710656 → Calls Tryz.prog 91 #[.agg #[.slice pN n cN, .slice pP m cP], .string s] X fun e w' => e = .returned (.tuple #[.int .i64 (va s), .int .i64 (vc s)]) ∧ Below X.heap.size X w') :
    Calls Tryz.prog 78 #[.pointer (some ⟨b, 0, none⟩)] w (NodePost w b (.slice pN n cN) (.slice pP m cP) k va vc ws) := by
  have HNN := Lib.hid hnn
  have HZ := Lib.hid hsz
  clear hnn hsz
  have a0 : w.cell? ⟨b, 0, none⟩ = some (.slice pN n cN) := h.cell 0 (by omega)
  have a1 : w.cell? ⟨b, 1, none⟩ = some (.slice pP m cP) := h.cell 1 (by omega)
  have hd : Ob w.drew b 4 (parC (.slice pN n cN) (.slice pP m cP) k vW) := h.keep rfl
  have U0 : Upd (· = b) w w.drew := ⟨rfl, rfl, rfl, Nat.le_refl _, fun _ _ _ => rfl⟩
  have gd : Ws w.drew b vW ws := g.upd U0
  clear h g
  go_enter Tryz.func78, Tryz.ntmps78
  go_wp2_with fail
  refine wp_region_held_drew (S := (fun w' : World => w'.cell? ⟨b, 0, none⟩ = some (.slice pN n cN) ∧ w'.cell? ⟨b, 1, none⟩ = some (.slice pP m cP))) (by kernel_rfl) ⟨a0, a1⟩ (fun hHeld => ?_)
  refine wpAnyH_take (i := 0) (v := ?_) nth0 (by kernel_rfl) (by kernel_rfl) (by kernel_rfl) (fun _ _ _ h => h) (Or.inl ⟨by rfl, ?_⟩) (by assumption) ?_
  rotate_left
  · intro w hSw; (try dsimp only at hSw); go_simp; try with_reducible rfl
  try simp only [Act.put, List.setIfInBounds_toArray, List.set_cons_zero, List.set_cons_succ]
  refine wpAnyH_take (i := 1) (v := ?_) nth1 (by kernel_rfl) (by kernel_rfl) (by kernel_rfl) (fun _ _ _ h => h) (Or.inl ⟨by rfl, ?_⟩) (by assumption) ?_
  rotate_left
  · intro w hSw; (try dsimp only at hSw); go_simp; try with_reducible rfl
  try simp only [Act.put, List.setIfInBounds_toArray, List.set_cons_zero, List.set_cons_succ]
  refine wpAnyH_take (i := 2) (v := ?_) nth2 (by kernel_rfl) (by kernel_rfl) (by kernel_rfl) (fun _ _ _ h => h) (Or.inl ⟨by rfl, ?_⟩) (by assumption) ?_
  rotate_left
  · intro w hSw; (try dsimp only at hSw); go_simp; try with_reducible rfl
  try simp only [Act.put, List.setIfInBounds_toArray, List.set_cons_zero, List.set_cons_succ]
  refine wpAnyH_take (i := 3) (v := ?_) nth3 (by kernel_rfl) (by kernel_rfl) (by kernel_rfl) (fun _ _ _ h => h) (Or.inl ⟨by rfl, ?_⟩) (by assumption) ?_
  rotate_left
  · intro w hSw; (try dsimp only at hSw); go_simp; try with_reducible rfl
  try simp only [Act.put, List.setIfInBounds_toArray, List.set_cons_zero, List.set_cons_succ]
  refine wpAnyH_take (i := 4) (v := ?_) nth4 (by kernel_rfl) (by kernel_rfl) (by kernel_rfl) (fun _ _ _ h => h) (Or.inl ⟨by rfl, ?_⟩) (by assumption) ?_
  rotate_left
  · intro w hSw; (try dsimp only at hSw); go_simp; try with_reducible rfl
  try simp only [Act.put, List.setIfInBounds_toArray, List.set_cons_zero, List.set_cons_succ]
  refine wpAnyH_ready (rs := [5]) (by kernel_rfl) (by simp) ?_
  refine (AllReadyH.cons nth5 (fun K hK => ?_) AllReadyH.nil)
  go_simp
  go_at_call 60
  refine (word_any w.drew b _ _ vW k ws hd gd).mono ?_
  rintro e w1 (⟨rfl, rfl, rfl⟩ | ⟨x, r, vW1, rfl, rfl, O1, W1, U1⟩)
  · exact ⟨rfl, .inl ⟨rfl, ⟨U0, hd.cell 2 (by omega)⟩, fun x r e => by cases e⟩⟩
  have U1' := U0.trans U1
  have S1 : (fun w' : World => w'.cell? ⟨b, 0, none⟩ = some (.slice pN n cN) ∧ w'.cell? ⟨b, 1, none⟩ = some (.slice pP m cP)) w1 := ⟨O1.cell 0 (by omega), O1.cell 1 (by omega)⟩
  clear U1 hd gd
  refine hK.out _ _ ?_ (fun hHeld => ?_)
  · exact S1
  clear hK K
  try simp only [Act.put, List.setIfInBounds_toArray, List.set_cons_zero, List.set_cons_succ]
  refine wpAnyH_ready (rs := [6]) (by kernel_rfl) (by simp) ?_
  refine (AllReadyH.cons nth6 (fun K hK => ?_) AllReadyH.nil)
  go_simp
  go_at_call 91
  refine (HNN.out w1 x U1' (HZ.out x (List.mem_cons_self ..))).mono ?_
  rintro e w2 ⟨rfl, b2⟩
  have S2 : (fun w' : World => w'.cell? ⟨b, 0, none⟩ = some (.slice pN n cN) ∧ w'.cell? ⟨b, 1, none⟩ = some (.slice pP m cP)) w2 := ⟨(b2.cell (p := ⟨b, 0, none⟩) O1.lt).trans S1.1, (b2.cell (p := ⟨b, 1, none⟩) O1.lt).trans S1.2⟩
  have U2 := Lib.hid (U1'.trans (Upd.of_below b2))
  have O2 := Lib.hid (O1.below b2 O1.lt)
  have W2 := Lib.hid (W1.upd (Upd.of_below b2))
  clear b2 O1 W1 U1'
  refine hK.out _ _ ?_ (fun hHeld => ?_)
  · exact S2
  clear hK K
  try simp only [Act.put, List.setIfInBounds_toArray, List.set_cons_zero, List.set_cons_succ]
  refine wpAnyH_take (i := 7) (v := ?_) nth7 (by kernel_rfl) (by kernel_rfl) (by kernel_rfl) (fun _ _ _ h => h) (Or.inl ⟨by rfl, ?_⟩) (by assumption) ?_
  rotate_left
  · intro w hSw; (try dsimp only at hSw); go_simp; try with_reducible rfl
  try simp only [Act.put, List.setIfInBounds_toArray, List.set_cons_zero, List.set_cons_succ]
  refine wpAnyH_take (i := 8) (v := ?_) nth8 (by kernel_rfl) (by kernel_rfl) (by kernel_rfl) (fun _ _ _ h => h) (Or.inl ⟨by rfl, ?_⟩) (by assumption) ?_
  rotate_left
  · intro w hSw; (try dsimp only at hSw); go_simp; try with_reducible rfl
  try simp only [Act.put, List.setIfInBounds_toArray, List.set_cons_zero, List.set_cons_succ]
  refine wpAnyH_take (i := 9) (v := ?_) nth9 (by kernel_rfl) (by kernel_rfl) (by kernel_rfl) (fun _ _ _ h => h) (Or.inl ⟨by rfl, ?_⟩) (by assumption) ?_
  rotate_left
  · intro w hSw; (try dsimp only at hSw); go_simp; try with_reducible rfl
  try simp only [Act.put, List.setIfInBounds_toArray, List.set_cons_zero, List.set_cons_succ]
  refine wpAnyH_take (i := 10) (v := ?_) nth10 (by kernel_rfl) (by kernel_rfl) (by kernel_rfl) (fun _ _ _ h => h) (Or.inl ⟨by rfl, ?_⟩) (by assumption) ?_
  rotate_left
  · intro w hSw; (try dsimp only at hSw); go_simp; try with_reducible rfl
  try simp only [Act.put, List.setIfInBounds_toArray, List.set_cons_zero, List.set_cons_succ]
  refine wpAnyH_take (i := 11) (v := ?_) nth11 (by kernel_rfl) (by kernel_rfl) (by kernel_rfl) (fun _ _ _ h => h) (Or.inl ⟨by rfl, ?_⟩) (by assumption) ?_
  rotate_left
  · intro w hSw; (try dsimp only at hSw); go_simp; try with_reducible rfl
  try simp only [Act.put, List.setIfInBounds_toArray, List.set_cons_zero, List.set_cons_succ]
  refine wpAnyH_done (by kernel_rfl) ?_ _
  generalize hc : vc x = c
  have HC := Lib.hid hc
  clear hc S1 S2
  by_cases hz : c = 0
  · subst hz
    go_wp2_with fail
    go_ret
    exact .inr ⟨x, r, vW1, rfl, HC.out, rfl, O2.out, W2.out, U2.out⟩
  · have hz' : (c != 0) = true := by simpa using hz
    have HZ2 := Lib.hid hz
    clear hz
    go_wp2_with (first | (go_at_call 41; refine (fail_any _ _).mono ?_; rintro e w' ⟨rfl, rfl⟩))
    exact ⟨rfl, .inl ⟨rfl, ⟨U2.out, O2.out.cell 2 (by omega)⟩, fun x' r' e => by injection e with e1 _; subst e1; rw [HC.out]; exact HZ2.out⟩⟩
theorem readPipe_none (w : World) (b : Nat) (pN pP : Option Addr) (n cN m cP : Nat) (vW : Value) (k : Int) (va vc : ByteArray → Int) (ws : List ByteArray) (h : Ob w b 4 (parC (.slice pN n cN) (.slice pP m cP) k vW)) (g : Ws w b vW ws) (hsz : ∀ x ∈ ws, x.size ≤ 281474976710656)
    (hnn : ∀ (X : World) (s : ByteArray), Upd (· = b) w X → s.size ≤ 281474976710656 → Calls Tryz.prog 91 #[.agg #[.slice pN n cN, .slice pP m cP], .string s] X fun e w' => e = .returned (.tuple #[.int .i64 (va s), .int .i64 (vc s)]) ∧ Below X.heap.size X w') (hvc : ∀ s, vc s ≠ 0) :
    Calls Tryz.prog 62 #[.pointer (some ⟨b, 0, none⟩)] w fun e w' => e = .panicked fell ∧ Upd (· = b) w w' := by
  go_enter Tryz.func62, Tryz.ntmps62
  go_wp2_with fail
  refine (node_any w b pN pP n cN m cP vW k va vc ws h g hsz hnn).mono ?_
  rintro e w1 (⟨rfl, U1, _⟩ | ⟨x, r, vW1, _, hz, _⟩)
  · exact ⟨rfl, rfl, U1.upd⟩
  · exact absurd hz (hvc x)
end Go.Proofs.YtmeoepdmaffjjaaGreatDoor.text
