/-
  FnNetworkText answers true wherever the library's variables lie as its text lays them. Conditions: as each states.
-/
import Derived.Test.YtbenloeomjdkcaaGreatDoorRows
import Derived.Test.YtbenloeomjdkcaaGreatDoorLaw
import Derived.Test.YtbenloeomjdkcaaGreatDoorCode
import Derived.Test.YtbenloeomjdkcaaGreatDoorDnt
import Derived.Test.YtbenloeomjdkcaaGreatDoorPnt
import Derived.Test.YtbenloeomjdkcaaGreatDoorLikeN
import Derived.WalkKit
import Derived.ProofKit
import Derived.OpenShut
import Derived.OwnWalk
import Derived.Lib.Hide
import Derived.Outline
import Derived.Deep.RegionHeld3
import Derived.IntWalk
namespace Go.Proofs.YtbenloeomjdkcaaGreatDoor.ntext
open Go.RowKit Go.Proofs.YtbenloeomjdkcaaGreatDoor.mem Go.Proofs.YtbenloeomjdkcaaGreatDoor.text
set_option linter.unusedVariables false

set_option maxRecDepth 100000 in
set_option maxHeartbeats 8000000 in
theorem walk (v : Value) (w : World) (hc : draw.CodeArg w v) (hE : Env w) :
    Calls Tryz.prog 4 #[v] w fun e w' => e = .returned (.bool true) ∧ Below w.heap.size w w' := by
  have HE := Lib.hid hE
  clear hE
  obtain ⟨p, len, cap, rfl, hlen, hcode⟩ := hc
  by_cases h4 : (4096 : Int) < len
  · go_enter Tryz.func4, Tryz.ntmps4
    go_wp2_with (go_at_call 11; refine (draw.big_any _ _ _ _).mono ?_; rintro e w' ⟨rfl, rfl⟩)
    go_ret
    exact ⟨rfl, Below.refl _ _⟩
  have HC := Lib.hid (hcode (by omega))
  clear hcode
  go_enter Tryz.func4, Tryz.ntmps4
  go_wp2_with (go_at_call 11; refine (draw.big_any _ _ _ _).mono ?_; rintro e w' ⟨rfl, rfl⟩)
  refine (draw.drawNetworkText w _ len HC.out).mono ?_
  rintro e w1 ⟨v, n, m, N, P, b1, b2, rfl, hn, hm, hnm, hO, l1, l2, B1⟩
  obtain ⟨s1, s2, s3, s4, rfl⟩ := hO.shape
  have HNM := Lib.hid hnm
  clear hnm
  have X2 := boxed w1 (.slice s1 n s2) (.slice s3 m s4) 25
  have bb := below_new w1 (.cells #[.slice s1 n s2, .slice s3 m s4] 25)
  go_wp2_with fail
  generalize hW : w1.alloc (Obj.cells #[.slice s1 n s2, .slice s3 m s4] 25) = w2 at *
  clear hW
  have B2 := Lib.hid (B1.trans (bb.mono B1.size))
  have O2 := Lib.hid (hO.next bb)
  have lX := X2.lt
  clear bb hO B1
  refine (networkText_any w2 _ n N m P 0 w2.heap.size O2.out.net (Nat.le_refl _) HNM.out (env_below HE.out B2.out).pow).mono ?_
  rintro e w3 ⟨rfl, bb⟩
  have X3 := X2.next bb
  have O3 := Lib.hid (O2.out.next bb)
  have B3 := Lib.hid (B2.out.trans (bb.mono B2.out.size))
  clear bb X2 O2
  obtain ⟨t, ht⟩ : ∃ t : ByteArray, t = ⟨(netT n N m P).toArray⟩ := ⟨_, rfl⟩
  have htl : t.data.toList = netT n N m P := by subst ht; simp
  have hts : t.size ≤ 4000 := by
    have h1 := netT_tight n N m P
    have h2 : t.data.toList.length = t.size := Array.length_toList
    rw [htl] at h2
    omega
  have HTL := Lib.hid htl
  rw [← ht]
  have HT := Lib.hid ht
  clear ht htl
  have e0 := X3.b0
  have e1 := X3.b1
  go_wp2_with fail
  refine (sNetworkText_any w3 _ n N m P 0 w3.heap.size O3.out.net (Nat.le_refl _) HNM.out).mono ?_
  rintro e w4 ⟨rfl, bb⟩
  rw [← HT.out]
  have X4 := X3.next bb
  have O4 := Lib.hid (O3.out.next bb)
  have B4 := Lib.hid (B3.out.trans (bb.mono B3.out.size))
  clear bb X3 O3 e0 e1 HT
  go_wp2_with fail
  refine (readNetwork_any w4 t (env_below HE.out B4.out) (by omega)).mono ?_
  rintro e w5 ⟨hans, bb⟩
  have X5 := X4.next bb
  have O5 := Lib.hid (O4.out.next bb)
  have B5 := Lib.hid (B4.out.trans (bb.mono B4.out.size))
  clear bb X4 O4
  rcases ntAns HTL.out hans with ⟨hB, v', g1, g2, rfl, o5, q1, q2⟩ | ⟨hB, rfl⟩
  · obtain ⟨y1, y2, y3, y4, rfl⟩ := o5.shape
    have HB := Lib.hid hB
    have bb := below_new w5 (.cells #[.slice y1 n y2, .slice y3 m y4] 25)
    have Y6 := boxed w5 (.slice y1 n y2) (.slice y3 m y4) 25
    have X6 := X5.next bb
    have O6 := Lib.hid (O5.out.next bb)
    have P6 := Lib.hid (o5.next bb)
    have B6 := Lib.hid (B5.out.trans (bb.mono B5.out.size))
    clear bb X5 O5 o5 hB hans
    go_wp2_with fail
    generalize hW : w5.alloc (Obj.cells #[.slice y1 n y2, .slice y3 m y4] 25) = w6 at *
    clear hW
    refine (firstWrong_any w6 t (env_below HE.out B6.out) hts).mono ?_
    rintro e w7 ⟨x, rfl, hfw, bb⟩
    obtain rfl := fwAns HTL.out HB.out hfw
    have X7 := X6.next bb
    have Y7 := Y6.next bb
    have O7 := Lib.hid (O6.out.next bb)
    have P7 := Lib.hid (P6.out.next bb)
    have B7 := Lib.hid (B6.out.trans (bb.mono B6.out.size))
    clear bb X6 Y6 O6 P6 hfw
    have hne : t.data.toList ≠ [] := by
      rw [HTL.out]
      unfold netT
      rw [HB.out]
      exact netL_ne2 HB.out
    have t0 : (t.toList == []) = false := by rw [beq_eq_false_iff_ne, Go.ByteArray.toList_eq]; exact hne
    have t1 : (t.toList != []) = true := by rw [bne, t0]; rfl
    clear hne
    have e0 := X7.b0
    have e1 := X7.b1
    have d0 := Y7.b0
    have d1 := Y7.b1
    go_wp2_with fail
    refine (likeNet_any w7 _ _ n N m P 0 w7.heap.size 0 w7.heap.size P7.out.net O7.out.net (Nat.le_refl _) (Nat.le_refl _) (by omega) (by omega)).mono ?_
    rintro e w8 ⟨rfl, bb⟩
    have B8 := Lib.hid (B7.out.trans (bb.mono B7.out.size))
    clear bb
    go_wp2_with fail
    go_ret
    exact ⟨rfl, B8.out⟩
  · have hemp : t.data.toList = [] := by
      rw [HTL.out]
      unfold netT
      rw [hB]
      rfl
    have t0 : (t.toList == []) = true := by rw [beq_iff_eq, Go.ByteArray.toList_eq]; exact hemp
    have t1 : (t.toList != []) = false := by rw [bne, t0]; rfl
    have bb := below_new w5 (.cells #[.slice none 0 0, .slice none 0 0] 25)
    have B6 := Lib.hid (B5.out.trans (bb.mono B5.out.size))
    clear bb hemp hB hans X5 O5
    go_wp2_with fail
    generalize hW : w5.alloc (Obj.cells #[.slice none 0 0, .slice none 0 0] 25) = w6 at *
    clear hW
    refine (firstWrong_any w6 t (env_below HE.out B6.out) hts).mono ?_
    rintro e w7 ⟨x, rfl, _, bb⟩
    have B7 := Lib.hid (B6.out.trans (bb.mono B6.out.size))
    clear bb
    go_wp2_with fail
    go_ret
    exact ⟨rfl, B7.out⟩
end Go.Proofs.YtbenloeomjdkcaaGreatDoor.ntext
