/-
  FnWrongLines answers true wherever the library's variables lie as its text lays them. Conditions: as each states.
-/
import Derived.Test.YtbenloeomjdkcaaGreatDoorRows
import Derived.Test.YtbenloeomjdkcaaGreatDoorLaw
import Derived.Test.YtbenloeomjdkcaaGreatDoorCode
import Derived.Test.YtbenloeomjdkcaaGreatDoorDnt
import Derived.Test.YtbenloeomjdkcaaGreatDoorPnt
import Derived.WalkKit
import Derived.ProofKit
import Derived.OpenShut
import Derived.OwnWalk
import Derived.Lib.Hide
import Derived.Outline
import Derived.Deep.RegionHeld3
import Derived.IntWalk
namespace Go.Proofs.YtbenloeomjdkcaaGreatDoor.wline
open Go.RowKit Go.Proofs.YtbenloeomjdkcaaGreatDoor.mem Go.Proofs.YtbenloeomjdkcaaGreatDoor.text
set_option linter.unusedVariables false

theorem byte_at {s : ByteArray} {k : Nat} (h : k < s.size) : s.data.toList[k]? = some s[k] := by simp [ByteArray.getElem_eq_getElem_data]
set_option maxRecDepth 100000 in
set_option maxHeartbeats 8000000 in
theorem walk (v : Value) (w : World) (hc : draw.CodeArg w v) (hE : Env w) :
    Calls Tryz.prog 5 #[v] w fun e w' => e = .returned (.bool true) ∧ Below w.heap.size w w' := by
  have HE := Lib.hid hE
  clear hE
  obtain ⟨p, len, cap, rfl, hlen, hcode⟩ := hc
  by_cases h4 : (4096 : Int) < len
  · go_enter Tryz.func5, Tryz.ntmps5
    go_wp2_with (go_at_call 11; refine (draw.big_any _ _ _ _).mono ?_; rintro e w' ⟨rfl, rfl⟩)
    go_ret
    exact ⟨rfl, Below.refl _ _⟩
  have HC := Lib.hid (hcode (by omega))
  clear hcode
  go_enter Tryz.func5, Tryz.ntmps5
  go_wp2_with (go_at_call 11; refine (draw.big_any _ _ _ _).mono ?_; rintro e w' ⟨rfl, rfl⟩)
  refine (draw.drawFirstWrongLine w _ len HC.out).mono ?_
  rintro e w1 ⟨u, rfl, hu, B1⟩
  by_cases hbig : 4000 < u.size
  · have HB1 := Lib.hid B1
    clear B1
    go_wp2_with fail
    refine (firstWrong_big w1 u hbig).mono ?_
    rintro e w2 ⟨rfl, bb⟩
    have B2 := Lib.hid (HB1.out.trans (bb.mono HB1.out.size))
    clear bb
    go_wp2_with fail
    refine (sFirstWrong_big w2 u hbig).mono ?_
    rintro e w3 ⟨rfl, bb⟩
    have B3 := Lib.hid (B2.out.trans (bb.mono B2.out.size))
    clear bb
    go_wp2_with fail
    go_ret
    exact ⟨rfl, B3.out⟩
  have hus : u.size ≤ 4000 := by omega
  clear hbig
  have HB1 := Lib.hid B1
  clear B1
  go_wp2_with fail
  refine (firstWrong_any w1 u (env_below HE.out HB1.out) hus).mono ?_
  rintro e w2 ⟨x, rfl, hF, bb⟩
  have B2 := Lib.hid (HB1.out.trans (bb.mono HB1.out.size))
  clear bb
  go_wp2_with fail
  refine (sFirstWrong_any w2 u hus).mono ?_
  rintro e w3 ⟨y, rfl, hS, bb⟩
  have hxy := fw_eq hF hS
  subst hxy
  have B3 := Lib.hid (B2.out.trans (bb.mono B2.out.size))
  clear bb hS
  have hxx : (x != x) = false := by simp
  rcases hF with ⟨rfl, _⟩ | ⟨n, N, m, P, ls, rest, rfl, hch, hs, hno⟩
  · go_wp2_with fail
    go_ret
    exact ⟨rfl, B3.out⟩
  have HCH := Lib.hid hch
  have HNO := Lib.hid hno
  have HS := Lib.hid hs
  have HNL := Lib.hid (chain_noline hch)
  have hgl : (glue ls).length ≤ u.size := by
    have h1 : u.data.toList.length = u.size := Array.length_toList
    rw [hs, List.length_append] at h1
    omega
  have hll := glue_len ls
  clear hch hno hs
  obtain ⟨G, hG⟩ : ∃ G, G = (glue ls).length := ⟨_, rfl⟩
  obtain ⟨L, hL⟩ : ∃ L, L = ls.length := ⟨_, rfl⟩
  have HG := Lib.hid hG
  have HL := Lib.hid hL
  rw [← hG] at hgl hll
  rw [← hL] at hll hxx ⊢
  clear hG hL
  have L0 : (0 : Int) ≤ (L : Int) := Int.natCast_nonneg _
  have L1 : ¬ ((L : Int) < 0) := by omega
  go_wp2_with fail
  go_loopw [8, 9] (fun iv cv wr => ∃ i c : Nat, iv = .int .i64 (i : Nat) ∧ cv = .int .i64 (c : Nat) ∧ i ≤ G ∧ c = (u.data.toList.take i).count 10 ∧ wr = w3) (fun iv _ _ => u.size - (intOf iv).toNat)
  case atStart => exact ⟨0, 0, rfl, rfl, Nat.zero_le _, by simp, rfl⟩
  case round =>
    obtain ⟨i, c, rfl, rfl, hi, hcc, hw⟩ := hrel
    have HCC := Lib.hid hcc
    clear hcc
    have i0 : (0 : Int) ≤ (i : Int) := Int.natCast_nonneg _
    have c0 : (0 : Int) ≤ (c : Int) := Int.natCast_nonneg _
    subst hw
    by_cases hlt : i < G
    · have hb := Lib.hid (show c < L by
        have := count_before HNL.out rest (i := i) (by rw [← HG.out]; exact hlt)
        rw [← HS.out, ← HCC.out, ← HL.out] at this
        exact this)
      have hcl := hb.out
      have i1 : (i : Int) < (u.size : Int) := by omega
      have c1 : (c : Int) < (L : Int) := by omega
      have hiu : i < u.size := by omega
      have HST := Lib.hid (count_step u.data.toList i u[i] (byte_at hiu))
      by_cases h10 : (u[i].toNat : Int) = 10
      · have h10' : u[i] = 10 := by
          apply UInt8.toNat_inj.1
          have : (10 : UInt8).toNat = 10 := rfl
          omega
        have HT := Lib.hid h10'
        clear h10'
        have hwr : IntKind.i64.wrap ((c : Int) + 1) = ((c + 1 : Nat) : Int) := by rw [IntWalk.i64_in _ (by omega)]; omega
        go_wp2_with fail
        go_roundw
        case rel => exact ⟨i + 1, c + 1, by go_num, rfl, hlt, by rw [HST.out, HT.out, if_pos rfl, ← HCC.out], by trivial⟩
        case measure => simp [intOf]; omega
      · have h10' : ((u[i].toNat : Int) == 10) = false := by simpa using h10
        have HT := Lib.hid (show u[i] ≠ 10 from fun e => h10 (by rw [e]; rfl))
        clear h10
        go_wp2_with fail
        go_roundw
        case rel => exact ⟨i + 1, c, by go_num, rfl, hlt, by rw [HST.out, if_neg HT.out, ← HCC.out]; rfl, by trivial⟩
        case measure => simp [intOf]; omega
    · have hiG : i = G := by omega
      subst hiG
      have hcL : c = L := by
        have := count_at HNL.out rest
        rw [← HG.out, ← HS.out, ← HCC.out, ← HL.out] at this
        exact this
      subst hcL
      have c1 : ¬ ((c : Int) < (c : Int)) := by omega
      have hex : (u.extract 0 i).data.toList = glue ls := by
        rw [extract_mid u 0 i hgl, List.drop_zero, Nat.sub_zero, HS.out, HG.out, List.take_left]
      have hexs : (u.extract 0 i).size ≤ 4000 := by
        rw [ByteArray.size_extract]
        omega
      obtain ⟨t, ht⟩ : ∃ t, t = u.extract 0 i := ⟨_, rfl⟩
      have HEX := Lib.hid (show t.data.toList = glue ls by rw [ht]; exact hex)
      have HTS := Lib.hid (show t.size ≤ 4000 by rw [ht]; exact hexs)
      have hex2 := ht.symm
      have iu : (i : Int) ≤ (u.size : Int) := by omega
      clear hex hexs ht
      by_cases hend : (i : Int) < (u.size : Int)
      all_goals
        go_wp2_with fail
        first | rw [hex2] | skip
        refine (readNetwork_any wr t (env_below HE.out B3.out) (Nat.le_trans HTS.out (by omega))).mono ?_
        rintro e w5 ⟨hans, bb⟩
        have B5 := Lib.hid (B3.out.trans (bb.mono B3.out.size))
        clear bb
        obtain ⟨v', n', m', q0, q1, d0, d1, rfl, rfl⟩ := wlAns HCH.out HEX.out hans
        rw [← HL.out]
        clear hans
        have bb := below_new w5 (.cells #[.slice q0 n' d0, .slice q1 m' d1] 25)
        have B6 := Lib.hid (B5.out.trans (bb.mono B5.out.size))
        clear bb
        go_wp2_with fail
        generalize hW : w5.alloc (Obj.cells #[.slice q0 n' d0, .slice q1 m' d1] 25) = w6 at *
        clear hW
        refine (readNetwork_any w6 u (env_below HE.out B6.out) (by omega)).mono ?_
        rintro e w7 ⟨hans, bb⟩
        have B7 := Lib.hid (B6.out.trans (bb.mono B6.out.size))
        clear bb
        obtain rfl := noAns HCH.out HNO.out HS.out hans
        clear hans
        have bb := below_new w7 (.cells #[.slice none 0 0, .slice none 0 0] 25)
        have B8 := Lib.hid (B7.out.trans (bb.mono B7.out.size))
        clear bb
        have hdd : (decide (0 < c)) = decide ((0 : Int) < (c : Int)) := decide_eq_decide.2 (by omega)
        have heq : (decide ((0 : Int) < (c : Int)) == decide ((0 : Int) < (c : Int))) = true := by simp
        rw [hdd]
        go_wp2_with fail
        go_ret
        exact ⟨rfl, B8.out⟩
end Go.Proofs.YtbenloeomjdkcaaGreatDoor.wline
