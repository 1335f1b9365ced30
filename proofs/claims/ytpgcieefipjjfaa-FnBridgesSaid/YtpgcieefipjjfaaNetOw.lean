/-
  Copies of networks in the specification. Conditions: as each states.
-/
import Derived.Test.YtpgcieefipjjfaaRows
import Derived.Test.YtpgcieefipjjfaaNetCl
import Derived.WalkKit
import Derived.ProofKit
import Derived.Outline
import Derived.OwnWalk
import Derived.Lib.Hide
import Derived.Deep.RegionHeld3
import Derived.Deep.RegionHeldLaw
namespace Go.Proofs.Ytpgcieefipjjfaa.mem
open Go.RowKit
set_option linter.unusedVariables false

/-- at an append of structs to an empty slice, in a region -/
theorem step_appE {t e : TypeId} {zv : Value} {z bytes : Nat} (ht : Try.prog.underlying t = some (.slice e)) (hinf : (Try.prog.info? e).map (fun i => (i.zero, i.size, i.bytes)) = some (some zv, z, bytes)) (hb64 : bytes ≤ 64)
    {ops : Array Oper} {o : Oper} {a : Act} {w : World} {K : Act → World → Prop} {Q : Exit → Act → World → Prop} {E : Prop} (hg : o.guard = none) (s x : Operand)
    (hop : o.op = Op.call { callee := Callee.builtin Builtin.append, args := #[s, x], argTypes := #[t, t] }) (hty : o.type = t) (B : Nat) (hs : a.eval s = .slice (some ⟨B, 0, none⟩) 0 0) (p : Option Addr) (n cap : Nat) (hx : a.eval x = .slice p n cap)
    (c : Nat → Nat → Value) (lo hi : Nat) (h : Cs w (.slice p n cap) n z c lo hi) (hn : n ≤ 2000000)
    (hK : ∀ p' cap' w' g, OwnS w' (.slice p' n cap') n z c g → Below w.heap.size w w' → w.heap.size ≤ g → K (a.put o.dst (.slice p' n cap')) w') : if Region.wanted o (yielded ops a.tmps) = true then Oper.wp Try.prog o a w K Q else E := by
  obtain ⟨v', w', g, hr, ho, hb, hg'⟩ := appE ht hinf hb64 w B p n cap c lo hi h hn
  obtain ⟨p', cap', rfl⟩ := ho.shape
  exact step_appT hr hg s x hop hty hs hx (hK _ _ _ _ ho hb hg')
theorem own_S {W1 W : World} {b : Nat} {v0 v1 : Value} (A : Ob W1 b 2 (bx v0 v1)) (h : Below W1.heap.size W1 W) : W.cell? ⟨b, 0, none⟩ = some v0 ∧ W.cell? ⟨b, 1, none⟩ = some v1 := ⟨(A.next h).b0, (A.next h).b1⟩
theorem below_al {B : Nat} {w w' : World} (h : Below B w w') (hB : B ≤ w.heap.size) (o : Obj) : Below B w (w'.alloc o) := h.alloc (Nat.le_trans hB h.size) o

end Go.Proofs.Ytpgcieefipjjfaa.mem
