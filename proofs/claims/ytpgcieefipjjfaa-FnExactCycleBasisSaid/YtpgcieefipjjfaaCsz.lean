/-
  Lists of lists of numbers in the laws: compared, marked, read. Conditions: as each states.
-/
import Derived.Test.YtpgcieefipjjfaaRows
import Derived.Test.YtpgcieefipjjfaaCsy
import Derived.Test.YtpgcieefipjjfaaIntA
namespace Go.Proofs.Ytpgcieefipjjfaa.mem
open Go.RowKit
set_option linter.unusedVariables false

/-- K lists of m numbers each, in blocks of their own, all from block B on -/
structure BS (w : World) (v : Value) (K m : Nat) (Y : Nat → Nat → Int) (B H : Nat) : Prop where
  le : H ≤ w.heap.size
  ex : ∃ (p : Option Addr) (cap q : Nat) (G C : Nat → Nat), v = .slice p K cap ∧ (0 < K → p = some ⟨q, 0, none⟩ ∧ B ≤ q ∧ q < H) ∧ ∀ i, i < K → w.cell? ⟨q, i, none⟩ = some (.slice (some ⟨G i, 0, none⟩) m (C i)) ∧ Row w (G i) m (Y i) ∧ B ≤ G i ∧ G i < H ∧ G i ≠ q ∧ ∀ j, i < j → j < K → G i ≠ G j
theorem Bas.bs {w : World} {v : Value} {K m B : Nat} {Y : Nat → Nat → Int} (h : Bas w v K m Y B) : BS w v K m Y B w.heap.size := by
  obtain ⟨G, C, h1, h2, h3⟩ := h.ex
  obtain ⟨q, o, hq⟩ := h1.ownS
  obtain ⟨p, cap, e, _, _, h4⟩ := o.ex
  refine ⟨Nat.le_refl _, p, cap, q, G, C, e, fun h0 => ?_, fun i hi => ?_⟩
  · rcases h4 with h4 | ⟨rfl, r⟩
    · omega
    · exact ⟨rfl, by omega, r.lt⟩
  · rcases h4 with h4 | ⟨rfl, r⟩
    · omega
    · obtain ⟨o1, o2⟩ := h2 i hi
      have h5 := r.cell i 0 hi (by omega)
      rw [Nat.mul_one, Nat.add_zero] at h5
      refine ⟨h5, o1.row, o2, o1.lt, fun hg => row_own h1 o1 ?_, fun j hij hj => Nat.ne_of_lt (h3 i j hij hj)⟩
      rw [e, hg]
      rfl
theorem BS.keep {w w' : World} {v : Value} {K m B H : Nat} {Y : Nat → Nat → Int} (h : BS w v K m Y B H) (hs : w.heap.size ≤ w'.heap.size) (hk : ∀ x, B ≤ x → x < H → w'.heap[x]? = w.heap[x]?) : BS w' v K m Y B H := by
  obtain ⟨p, cap, q, G, C, e, h0, h1⟩ := h.ex
  refine ⟨Nat.le_trans h.le hs, p, cap, q, G, C, e, h0, fun i hi => ?_⟩
  obtain ⟨_, a2, a3⟩ := h0 (by omega)
  obtain ⟨b1, b2, b3, b4, b5, b6⟩ := h1 i hi
  exact ⟨(World.cell?_of_block (a := ⟨q, i, none⟩) (hk q a2 a3)).trans b1,
    ⟨fun k hk' => (World.cell?_of_block (a := ⟨G i, k, none⟩) (hk _ b3 b4)).trans (b2.cell k hk'), fun k hk' => (World.frozen?_of_block (a := ⟨G i, k, none⟩) (hk _ b3 b4)).trans (b2.free k hk')⟩,
    b3, b4, b5, b6⟩
theorem BS.next {w w' : World} {v : Value} {K m B H : Nat} {Y : Nat → Nat → Int} (h : BS w v K m Y B H) (b : Below w.heap.size w w') : BS w' v K m Y B H :=
  h.keep b.size (fun x _ hx => b.block x (Nat.lt_of_lt_of_le hx h.le))
theorem BS.below {w w' : World} {v : Value} {K m B H L : Nat} {Y : Nat → Nat → Int} (h : BS w v K m Y B H) (b : Below L w w') (hL : H ≤ L) : BS w' v K m Y B H :=
  h.keep b.size (fun x _ hx => b.block x (Nat.lt_of_lt_of_le hx hL))
theorem BS.upd {X : Nat → Prop} {w w' : World} {v : Value} {K m B H : Nat} {Y : Nat → Nat → Int} (h : BS w v K m Y B H) (u : Upd X w w') (hX : ∀ x, X x → x < B ∨ H ≤ x) : BS w' v K m Y B H :=
  h.keep u.size (fun x h1 hx => u.block x (Nat.lt_of_lt_of_le hx h.le) (fun hh => by have := hX x hh; omega))
set_option maxRecDepth 100000 in
set_option maxHeartbeats 8000000 in
theorem eqSS_any (w : World) (va vb : Value) (K m : Nat) (Y : Nat → Nat → Int) (B B' H H' : Nat) (ha : BS w va K m Y B H) (hb : BS w vb K m Y B' H') (hK : K ≤ 40) (hm : m ≤ 2000000) :
    Calls Try.prog 16 #[va, vb] w fun e w' => e = .returned (.bool true) ∧ Below w.heap.size w w' := by
  obtain ⟨pa, ca, qa, Ga, Ca, rfl, a1, a2⟩ := ha.ex
  obtain ⟨pb, cb, qb, Gb, Cb, rfl, b1, b2⟩ := hb.ex
  have A1 := Lib.hid a1
  have A2 := Lib.hid a2
  have B1 := Lib.hid b1
  have B2 := Lib.hid b2
  have hH := ha.le
  have hH' := hb.le
  clear ha hb a1 a2 b1 b2
  have hbb : ((K : Int) != K) = false := by simp
  go_enter Try.func16, Try.ntmps16
  go_wp2_with fail
  go_loopw [5] (fun i wr => ∃ k : Nat, i = .int .i64 k ∧ k ≤ K ∧ Below w.heap.size w wr) (fun i _ => K - (intOf i).toNat)
  case atStart => exact ⟨0, rfl, Nat.zero_le _, Below.refl _ _⟩
  case round =>
    obtain ⟨k, rfl, hk, hb⟩ := hrel
    have HL := Lib.hid hb
    have hsz := hb.size
    clear hb
    have k0 : (0 : Int) ≤ (k : Int) := Int.natCast_nonneg _
    by_cases hlt : k < K
    · have k1 : (k : Int) < (K : Int) := by omega
      obtain ⟨ea, _, ha3⟩ := A1.out (by omega)
      obtain ⟨eb, _, hb3⟩ := B1.out (by omega)
      subst ea eb
      obtain ⟨x1, x2, _, x4, _⟩ := A2.out k hlt
      obtain ⟨z1, z2, _, z4, _⟩ := B2.out k hlt
      have y1 : wr.cell? ⟨qa, k, none⟩ = some (.slice (some ⟨Ga k, 0, none⟩) m (Ca k)) := (HL.out.cell (p := ⟨qa, k, none⟩) (Nat.lt_of_lt_of_le ha3 hH)).trans x1
      have y2 : wr.cell? ⟨qb, k, none⟩ = some (.slice (some ⟨Gb k, 0, none⟩) m (Cb k)) := (HL.out.cell (p := ⟨qb, k, none⟩) (Nat.lt_of_lt_of_le hb3 hH')).trans z1
      have SA := Lib.hid ((x2.below HL.out (Nat.lt_of_lt_of_le x4 hH)).sl (cap := Ca k) (lo := 0) (hi := wr.heap.size) (Nat.zero_le _) (by omega))
      have SB := Lib.hid ((z2.below HL.out (Nat.lt_of_lt_of_le z4 hH')).sl (cap := Cb k) (lo := 0) (hi := wr.heap.size) (Nat.zero_le _) (by omega))
      clear x1 x2 z1 z2
      have hAny : ∀ X : World, Below wr.heap.size wr X → X.cell? ⟨qa, k, none⟩ = some (.slice (some ⟨Ga k, 0, none⟩) m (Ca k)) ∧ X.cell? ⟨qb, k, none⟩ = some (.slice (some ⟨Gb k, 0, none⟩) m (Cb k)) := fun X h => ⟨(h.cell (p := ⟨qa, k, none⟩) (by show qa < _; omega)).trans y1, (h.cell (p := ⟨qb, k, none⟩) (by show qb < _; omega)).trans y2⟩
      go_wp2_with fail
      go_region_held3 (fun w' : World => w'.cell? ⟨qa, k, none⟩ = some (.slice (some ⟨Ga k, 0, none⟩) m (Ca k)) ∧ w'.cell? ⟨qb, k, none⟩ = some (.slice (some ⟨Gb k, 0, none⟩) m (Cb k)))
        (first | exact hAny _ (below_drw (Below.refl _ _)) | exact hAny _ KX)
        (first | (go_at_call 24; refine (eq_any _ _ _ m (Y k) 0 wr.heap.size 0 wr.heap.size (sl_dr SA.out) (sl_dr SB.out) hm).mono ?_; rintro e wX ⟨rfl, mm, hmm⟩; have KX : Below wr.heap.size wr wX := (by rw [hmm]; exact below_drNN (below_drw (Below.refl _ _)) mm); clear hmm))
      have HL5 := Lib.hid (HL.out.trans (KX.mono hsz))
      clear hAny KX y1 y2
      go_wp2_with fail
      go_roundw
      case rel => exact ⟨k + 1, by go_num, hlt, HL5.out⟩
      case measure => simp [intOf]; omega
    · have k1 : ¬ ((k : Int) < (K : Int)) := by omega
      go_wp2_with fail
      go_ret
      exact ⟨rfl, HL.out⟩
/-- the marks' bound -/
theorem mk_le {i K m : Nat} (hi : i ≤ K) (hK : K ≤ 40) (hm : m ≤ 2000000) : i * m ≤ 80000000 := Nat.mul_le_mul (Nat.le_trans hi hK) hm
set_option maxRecDepth 100000 in
set_option maxHeartbeats 8000000 in
theorem markSS_any (w : World) (va : Value) (K m : Nat) (Y : Nat → Nat → Int) (B H : Nat) (ha : BS w va K m Y B H) (hB : B ≤ w.heap.size) (hK : K ≤ 40) (hm : m ≤ 2000000) (q : Nat) (hq : q = 1 + K * m) :
    Calls Try.prog 19 #[va, .int .i64 1] w fun e w' => e = .returned (.int .i64 (q : Nat)) ∧ BS w' va K m (fun i j => ((1 + i * m : Nat) : Int) + j) B H ∧ Below B w w' := by
  obtain ⟨pa, ca, qa, Ga, Ca, rfl, a1, a2⟩ := ha.ex
  have A1 := Lib.hid a1
  have A2 := Lib.hid a2
  have HQQ := Lib.hid hq
  have hH := ha.le
  clear ha a1 a2 hq
  go_enter Try.func19, Try.ntmps19
  go_wp2_with fail
  go_loopw [1, 5] (fun kv iv wr => ∃ i c : Nat, kv = .int .i64 (c : Nat) ∧ iv = .int .i64 i ∧ i ≤ K ∧ c = 1 + i * m ∧ wr.heap.size = w.heap.size ∧ (∀ x, x < K → wr.cell? ⟨qa, x, none⟩ = some (.slice (some ⟨Ga x, 0, none⟩) m (Ca x)) ∧ Row wr (Ga x) m (fun j => if x < i then ((1 + x * m : Nat) : Int) + j else Y x j)) ∧ Below B w wr) (fun _ iv _ => K - (intOf iv).toNat)
  case atStart => exact ⟨0, 1, rfl, rfl, Nat.zero_le _, by omega, rfl, fun x hx => ⟨(A2.out x hx).1, (A2.out x hx).2.1.congr (fun j _ => by rw [if_neg (by omega)])⟩, Below.refl _ _⟩
  case round =>
    obtain ⟨i, c, rfl, rfl, hi, hc, hz, hr, hb⟩ := hrel
    have HC := Lib.hid hc
    have HZ := Lib.hid hz
    have HR := Lib.hid hr
    have HL := Lib.hid hb
    have him := mk_le hi hK hm
    have c9 : c ≤ 1000000000 := by omega
    clear hc hz hr hb him
    have k0 : (0 : Int) ≤ (i : Int) := Int.natCast_nonneg _
    by_cases hlt : i < K
    · have k1 : (i : Int) < (K : Int) := by omega
      obtain ⟨ea, e1, ha3⟩ := A1.out (by omega)
      subst ea
      obtain ⟨_, _, x3, x4, x5, x6⟩ := A2.out i hlt
      have HX6 := Lib.hid x6
      obtain ⟨y1, y2⟩ := HR.out i hlt
      have HY2 := Lib.hid y2
      clear y2 x6
      go_wp2_with (first | (go_at_call 27; refine (mark_any _ (Ga i) m (Ca i) _ (c : Nat) HY2.out hm (by omega) (by omega)).mono ?_; rintro e w7 ⟨rfl, r7, o7⟩; have HR7 := Lib.hid r7; have HO7 := Lib.hid o7; clear r7 o7))
      go_roundw
      case rel =>
        refine ⟨i + 1, c + m, by go_num, by go_num, hlt, by rw [HC.out, Nat.add_mul]; omega, by rw [← HO7.out.size, HZ.out], fun x hx => ⟨?_, ?_⟩, HL.out.trans ((Upd.of_only HO7.out).below (by rw [HZ.out]; exact hB) (fun k _ hk => by rw [hk]; exact x3))⟩
        · exact (HO7.out.cell (a := ⟨qa, x, none⟩) (fun e => x5 e.symm)).trans (HR.out x hx).1
        · by_cases e : x = i
          · subst e
            refine HR7.out.congr (fun j _ => ?_)
            rw [if_pos (by omega), ← HC.out]
          · refine ((HR.out x hx).2.only HO7.out ?_).congr (fun j _ => ?_)
            · rcases Nat.lt_or_gt_of_ne e with g | g
              · exact (A2.out x hx).2.2.2.2.2 i g hlt
              · exact fun h => HX6.out x g hx h.symm
            · by_cases g : x < i
              · rw [if_pos g, if_pos (by omega)]
              · rw [if_neg g, if_neg (by omega)]
      case measure => simp [intOf]; omega
    · have k1 : ¬ ((i : Int) < (K : Int)) := by omega
      have hiK : i = K := by omega
      have HCQ := Lib.hid (show c = q by rw [HC.out, hiK, ← HQQ.out])
      clear hiK
      go_wp2_with fail
      go_ret
      refine ⟨by have e := HCQ.out; cases e; rfl, ⟨by rw [HZ.out]; exact hH, pa, ca, qa, Ga, Ca, rfl, A1.out, fun x hx => ?_⟩, HL.out⟩
      obtain ⟨_, _, x3, x4, x5, x6⟩ := A2.out x hx
      exact ⟨(HR.out x hx).1, (HR.out x hx).2.congr (fun j _ => if_pos (by omega)), x3, x4, x5, x6⟩
set_option maxRecDepth 100000 in
set_option maxHeartbeats 8000000 in
theorem heldSS_any (w : World) (va : Value) (K m : Nat) (B H : Nat) (ha : BS w va K m (fun i j => ((1 + i * m : Nat) : Int) + j) B H) (hK : K ≤ 40) (hm : m ≤ 2000000) (q : Nat) (hq : q = 1 + K * m) :
    Calls Try.prog 20 #[va, .int .i64 1] w fun e w' => e = .returned (.int .i64 (q : Nat)) ∧ Below w.heap.size w w' := by
  obtain ⟨pa, ca, qa, Ga, Ca, rfl, a1, a2⟩ := ha.ex
  have A1 := Lib.hid a1
  have A2 := Lib.hid a2
  have HQQ := Lib.hid hq
  have hH := ha.le
  clear ha a1 a2 hq
  go_enter Try.func20, Try.ntmps20
  go_wp2_with fail
  go_loopw [1, 5] (fun kv iv wr => ∃ i c : Nat, kv = .int .i64 (c : Nat) ∧ iv = .int .i64 i ∧ i ≤ K ∧ c = 1 + i * m ∧ wr = w) (fun _ iv _ => K - (intOf iv).toNat)
  case atStart => exact ⟨0, 1, rfl, rfl, Nat.zero_le _, by omega, rfl⟩
  case round =>
    obtain ⟨i, c, rfl, rfl, hi, hc, rfl⟩ := hrel
    have HC := Lib.hid hc
    have him := mk_le hi hK hm
    have c9 : c ≤ 1000000000 := by omega
    clear hc him
    have k0 : (0 : Int) ≤ (i : Int) := Int.natCast_nonneg _
    by_cases hlt : i < K
    · have k1 : (i : Int) < (K : Int) := by omega
      obtain ⟨ea, e1, ha3⟩ := A1.out (by omega)
      subst ea
      obtain ⟨y1, y2, x3, x4, x5, x6⟩ := A2.out i hlt
      have HS := Lib.hid ((y2.congr (d' := fun j => ((c : Nat) : Int) + j) (fun j _ => by rw [HC.out])).sl (cap := Ca i) (lo := 0) (hi := wr.heap.size) (Nat.zero_le _) (Nat.lt_of_lt_of_le x4 hH))
      have n0 : ¬ ((c : Int) + (m : Int) < 0) := by omega
      clear y2 x6
      go_wp2_with (first | (go_at_call 28; refine (held_any _ _ m (c : Nat) 0 _ HS.out hm (by omega) (by omega)).mono ?_; rintro e w7 ⟨rfl, rfl⟩))
      go_roundw
      case rel => exact ⟨i + 1, c + m, by go_num, by go_num, hlt, by rw [HC.out, Nat.add_mul]; omega, trivial⟩
      case measure => simp [intOf]; omega
    · have k1 : ¬ ((i : Int) < (K : Int)) := by omega
      have hiK : i = K := by omega
      have HCQ := Lib.hid (show c = q by rw [HC.out, hiK, ← HQQ.out])
      clear hiK
      go_wp2_with fail
      go_ret
      exact ⟨by have e := HCQ.out; cases e; rfl, Below.refl _ _⟩
end Go.Proofs.Ytpgcieefipjjfaa.mem
