/-
  THE WALK of the law DiskDies: whatever the number and the text, it returns true and writes to nothing that was there.
-/
import Derived.Test.YtaoifbdojleenaaDkSm
namespace Go.Proofs.Ytaoifbdojleenaa
open Go.RowKit Go.Maps

/-- The disk behind i calls (Sync, SyncDir in turn) of one that was armed with n. -/
def Dd (n i : Nat) (b : Nat) (s : Nm) : DS := { now := [([97], b)], safe := if 1 < i ∧ 1 < n then [([97], b)] else [], fs := upd (fun _ => ([], [])) b (s, if 0 < i ∧ 0 < n then s else []), quota := 100000, left := if i ≤ n then (n : Int) - i else 0, dead := decide (n < i) }
def dE (n i : Nat) : Int := if i < n then 0 else 8
theorem dd0 (b : Nat) (s : ByteArray) (hs : s.size ≤ 50) : appE (newDS 100000) ⟨#[97]⟩ s = 0 ∧ ∀ n : Nat, armDS (appD (newDS 100000) ⟨#[97]⟩ s b) n = Dd n 0 b s.data.toList := by
  have hc : Case 100000 0 s.size 0 (0 + s.size) := .inl ⟨by omega, rfl, rfl⟩
  have hno : ¬ (newDS 100000).Has b := by rintro ⟨x, h | h⟩ <;> cases h
  obtain ⟨e, _, _⟩ := (sm_new 100000 (by omega)).next (s := ⟨#[97]⟩) (t := s) (b := b) rfl rfl hno (by omega) (by omega) hc
  obtain ⟨_, _, _, _, hD⟩ := ((sm_new 100000 (by omega)).app (s := ⟨#[97]⟩) (t := s) (b := b) rfl rfl hno (by omega) (by omega)).1 (by omega)
  refine ⟨e, fun n => ?_⟩
  rw [hD]
  simp [armDS, newF, newDS, putD, delD, ins, Dd]
  omega
theorem dd_dead {n i b : Nat} {s : Nm} (h : n < i) : (Dd n i b s).dead = true := by simp [Dd, h]
theorem dd_live {n i b : Nat} {s : Nm} (h : ¬ n < i) : (Dd n i b s).dead = false := by simp [Dd, h]
theorem dd_stay {n i b : Nat} {s : Nm} (h : n < i) : Dd n (i + 1) b s = Dd n i b s := by
  have h1 : ¬ i + 1 ≤ n := by omega
  have h2 : ¬ i ≤ n := by omega
  have h3 : n < i + 1 := by omega
  have h4 : (0 < i + 1 ∧ 0 < n) ↔ (0 < i ∧ 0 < n) := by omega
  have h5 : (1 < i + 1 ∧ 1 < n) ↔ (1 < i ∧ 1 < n) := by omega
  simp only [Dd, h1, h2, h3, h, h4, h5, if_false]
theorem dd_find {n i b : Nat} {s : Nm} (h : ¬ n < i) : findV (Dd n i b s) [97] = some b ∧ findE (Dd n i b s) [97] = 0 := by
  constructor
  · unfold findV; rw [dd_live h]; simp [Dd, getD]
  · unfold findE; rw [dd_live h]; simp [Dd, getD]
theorem dd_find_dead {n i b : Nat} {s : Nm} (h : n < i) : findV (Dd n i b s) [97] = none ∧ findE (Dd n i b s) [97] = 8 := by
  constructor
  · unfold findV; rw [dd_dead h]; rfl
  · unfold findE; rw [dd_dead h]; rfl
theorem dd_sync {n i b : Nat} {s : Nm} (he : i % 2 = 0) : synE (Dd n i b s) ⟨#[97]⟩ = dE n i ∧ synD (Dd n i b s) ⟨#[97]⟩ = Dd n (i + 1) b s := by
  have e0 : (⟨#[97]⟩ : ByteArray).data.toList = [97] := rfl
  unfold synE synD dE
  rw [e0]
  by_cases hd : n < i
  · rw [(dd_find_dead hd).1, (dd_find_dead hd).2, if_neg (show ¬ i < n by omega), dd_stay hd]
    exact ⟨by simp, rfl⟩
  · rw [(dd_find hd).1, (dd_find hd).2]
    by_cases hn : i < n
    · have hl : (Dd n i b s).left = (n : Int) - i := by simp only [Dd]; rw [if_pos (by omega)]
      have hl0 : ¬ (Dd n i b s).left = 0 := by rw [hl]; omega
      have hlp : 0 < (Dd n i b s).left := by rw [hl]; omega
      simp only [ne_eq, not_true, if_false, hl0, if_pos hn]
      refine ⟨by simp, ?_⟩
      unfold synF decD
      rw [if_pos hlp]
      have h1 : i + 1 ≤ n := by omega
      have h2 : i ≤ n := by omega
      have h3 : ¬ n < i + 1 := by omega
      have h4 : 0 < i + 1 ∧ 0 < n := by omega
      have h5 : (1 < i + 1 ∧ 1 < n) ↔ (1 < i ∧ 1 < n) := by omega
      simp only [Dd, upd_same, upd_upd, h1, h2, h3, hd, if_true, h5, if_pos h4]
      congr 1
      omega
    · have hin : i = n := by omega
      have hl : (Dd n i b s).left = 0 := by simp only [Dd]; rw [if_pos (by omega)]; omega
      simp only [ne_eq, not_true, if_false, hl, if_true, if_neg hn]
      refine ⟨trivial, ?_⟩
      unfold dieD
      have h1 : ¬ i + 1 ≤ n := by omega
      have h2 : i ≤ n := by omega
      have h3 : n < i + 1 := by omega
      have h4 : (0 < i + 1 ∧ 0 < n) ↔ (0 < i ∧ 0 < n) := by omega
      have h5 : (1 < i + 1 ∧ 1 < n) ↔ (1 < i ∧ 1 < n) := by omega
      simp only [Dd, h1, h2, h3, if_true, if_false, h4, h5, decide_true]
      congr 1
      omega
theorem dd_sdir {n i b : Nat} {s : Nm} (ho : i % 2 = 1) : sdE (Dd n i b s) = dE n i ∧ sdD (Dd n i b s) = Dd n (i + 1) b s := by
  unfold sdE sdD dE
  by_cases hd : n < i
  · rw [dd_dead hd, if_neg (show ¬ i < n by omega), dd_stay hd]
    exact ⟨rfl, rfl⟩
  · rw [dd_live hd]
    by_cases hn : i < n
    · have hl : (Dd n i b s).left = (n : Int) - i := by simp only [Dd]; rw [if_pos (by omega)]
      have hl0 : ¬ (Dd n i b s).left = 0 := by rw [hl]; omega
      have hlp : 0 < (Dd n i b s).left := by rw [hl]; omega
      simp only [Bool.false_eq_true, if_false, hl0, if_pos hn]
      refine ⟨trivial, ?_⟩
      unfold sdirF decD
      rw [if_pos hlp]
      have h1 : i + 1 ≤ n := by omega
      have h2 : i ≤ n := by omega
      have h3 : ¬ n < i + 1 := by omega
      have h4 : (0 < i + 1 ∧ 0 < n) ↔ (0 < i ∧ 0 < n) := by omega
      have h5 : 1 < i + 1 ∧ 1 < n := by omega
      simp only [Dd, h1, h2, h3, hd, if_true, h4, if_pos h5]
      congr 1
      omega
    · have hin : i = n := by omega
      have hl : (Dd n i b s).left = 0 := by simp only [Dd]; rw [if_pos (by omega)]; omega
      simp only [Bool.false_eq_true, if_false, hl, if_true, if_neg hn]
      refine ⟨trivial, ?_⟩
      unfold dieD
      have h1 : ¬ i + 1 ≤ n := by omega
      have h2 : i ≤ n := by omega
      have h3 : n < i + 1 := by omega
      have h4 : (0 < i + 1 ∧ 0 < n) ↔ (0 < i ∧ 0 < n) := by omega
      have h5 : (1 < i + 1 ∧ 1 < n) ↔ (1 < i ∧ 1 < n) := by omega
      simp only [Dd, h1, h2, h3, if_true, if_false, h4, h5, decide_true]
      congr 1
      omega
theorem dd_crash {n b : Nat} {s : Nm} (_hn : n ≤ 30) : (crashD (Dd n 40 b s) [] true).dead = false ∧ findV (crashD (Dd n 40 b s) [] true) [97] = some b ∧ findE (crashD (Dd n 40 b s) [] true) [97] = 0 ∧ ((crashD (Dd n 40 b s) [] true).fs b).1 = (if 0 < n then s else []) := by
  have e1 : (crashD (Dd n 40 b s) [] true).now = [([97], b)] := (crTo_now _ _ _).1
  refine ⟨rfl, ?_, ?_, ?_⟩
  · unfold findV; rw [e1]; rfl
  · unfold findE; rw [e1]; rfl
  · by_cases h : 0 < n
    · simp [crashD, Dd, crTo, crF, crN, kf, upd_same, h, List.isPrefixOf_iff_prefix]
    · simp [crashD, Dd, crTo, crF, crN, kf, upd_same, h]
theorem read_whole (x : ByteArray) (k : Nat) (h : x.size ≤ k) : (⟨((x.data.toList.drop 0).take k).toArray⟩ : ByteArray) = x := by
  apply WideShapes.bytes_inj
  simp only [List.drop_zero]
  rw [List.take_of_length_le (by simpa using h)]
set_option maxHeartbeats 8000000 in
set_option maxRecDepth 100000 in
theorem dies_walk (n0 : Int) (s : ByteArray) (_hn0 : (Lit.int .i64 n0).wf = true) (hs : s.size ≤ maxLen) (w : World) :
    Calls Try.prog 5 #[.int .i64 n0, .string s] w fun e w' => e = .returned (.bool true) ∧ Below w.heap.size w w' := by
  have C1 := Lib.hid (cut_any s 50 w hs (by omega))
  have l1 := cutB_size s 50
  generalize cutB s 50 = x at *
  clear hs _hn0
  by_cases h1 : n0 < 0
  · have AW := Lib.hid (awake_any w)
    go_enter Try.func5, Try.ntmps5
    go_wp2_with fail
    refine AW.out.mono ?_
    rintro e w1 ⟨rfl, h1⟩
    go_wp2
    go_ret
    exact ⟨rfl, h1⟩
  by_cases h2 : 30 < n0
  · have AW := Lib.hid (awake_any w)
    have h1' : decide (n0 < 0) = false := by simpa using h1
    go_enter Try.func5, Try.ntmps5
    go_wp2_with fail
    refine AW.out.mono ?_
    rintro e w1 ⟨rfl, h1⟩
    go_wp2
    go_ret
    exact ⟨rfl, h1⟩
  obtain ⟨n, rfl⟩ : ∃ n : Nat, n0 = n := ⟨n0.toNat, by omega⟩
  have hn : n ≤ 30 := by omega
  have i1 : decide ((n : Int) < 0) = false := by simp
  have i2 : decide (30 < (n : Int)) = false := by simp; omega
  clear h1 h2
  have NC := Lib.hid (new_d (Fp := Fb w.heap.size) w (Fb_up (Nat.le_refl _)) 100000 (by omega) 1000 (by omega))
  go_enter Try.func5, Try.ntmps5
  go_wp2_with fail
  refine C1.out.mono ?_
  rintro e w1 ⟨rfl, rfl⟩
  go_wp2_with fail
  refine NC.out.mono ?_
  rintro e w1 ⟨rfl, d0, o0⟩
  have P1 := Lib.hid (append_d d0 (o0.up (Fb_up (Nat.le_refl _))) ⟨#[97]⟩ x (by decide) (by omega) (by omega))
  rw [(dd0 0 x l1).1] at P1
  have O1 := Lib.hid o0
  clear NC d0 o0
  go_wp2_with fail
  refine P1.out.mono ?_
  rintro e w2 ⟨rfl, b, _, d1, o1⟩
  have P2 := Lib.hid (arm_d d1 n (by omega))
  rw [(dd0 b x l1).2] at P2
  have O2 := Lib.hid (O1.out.trans o1)
  clear P1 d1 o1 O1
  go_wp2_with fail
  refine P2.out.mono ?_
  rintro e w3 ⟨rfl, d2, o2⟩
  have K0 : Hid (Dsk (Fb w.heap.size) w3 (w.heap.size + 2) (Dd n 0 b x.data.toList) 1000 ∧ Oth (Fb w.heap.size) w w3) := Lib.hid ⟨d2, O2.out.trans o2⟩
  clear P2 d2 o2 O2
  go_wp2_with fail
  go_loopw [6, 7] (fun v iv wr => ∃ k : Nat, k ≤ 40 ∧ v = .int .i64 ((min k n : Nat) : Int) ∧ iv = .int .i64 k ∧ Hid (Dsk (Fb w.heap.size) wr (w.heap.size + 2) (Dd n k b x.data.toList) 1000 ∧ Oth (Fb w.heap.size) w wr)) (fun _ iv _ => 40 - (intOf iv).toNat)
  case atStart => exact ⟨0, by omega, by simp, rfl, K0⟩
  case round =>
    obtain ⟨k, hk, rfl, rfl, HK⟩ := hrel
    by_cases hlt : k < 40
    · have hle : ((min k n : Nat) : Int) ≤ 40 := by omega
      by_cases hpar : k % 2 = 0
      · have m1 : Int.tmod (k : Int) 2 = 0 := by rw [Int.tmod_eq_emod_of_nonneg (by omega)]; omega
        have P3 := Lib.hid (sync_d HK.out.1 ⟨#[97]⟩ (by decide))
        rw [(dd_sync hpar).1, (dd_sync hpar).2] at P3
        have O3 := Lib.hid HK.out.2
        clear HK K0
        by_cases hlive : k < n
        · have hd : dE n k = 0 := by unfold dE; rw [if_pos hlive]
          have hm : ((min (k + 1) n : Nat) : Int) = ((min k n : Nat) : Int) + 1 := by omega
          rw [hd] at P3
          generalize ((min k n : Nat) : Int) = mk at *
          go_wp2_with fail
          refine P3.out.mono ?_
          rintro e w4 ⟨rfl, d4, o4⟩
          have K4 : Hid (Dsk (Fb w.heap.size) w4 (w.heap.size + 2) (Dd n (k + 1) b x.data.toList) 1000 ∧ Oth (Fb w.heap.size) w w4) := Lib.hid ⟨d4, O3.out.trans o4⟩
          clear P3 O3 d4 o4
          go_wp2
          go_roundw
          case rel => exact ⟨k + 1, by omega, by rw [hm], by go_num, K4⟩
          case measure => simp [intOf]; omega
        · have hd : dE n k = 8 := by unfold dE; rw [if_neg hlive]
          have hm : ((min (k + 1) n : Nat) : Int) = ((min k n : Nat) : Int) := by omega
          rw [hd] at P3
          generalize ((min k n : Nat) : Int) = mk at *
          go_wp2_with fail
          refine P3.out.mono ?_
          rintro e w4 ⟨rfl, d4, o4⟩
          have K4 : Hid (Dsk (Fb w.heap.size) w4 (w.heap.size + 2) (Dd n (k + 1) b x.data.toList) 1000 ∧ Oth (Fb w.heap.size) w w4) := Lib.hid ⟨d4, O3.out.trans o4⟩
          clear P3 O3 d4 o4
          go_wp2
          go_roundw
          case rel => exact ⟨k + 1, by omega, by rw [hm], by go_num, K4⟩
          case measure => simp [intOf]; omega
      · have hpar1 : k % 2 = 1 := by omega
        have m1 : Int.tmod (k : Int) 2 = 1 := by rw [Int.tmod_eq_emod_of_nonneg (by omega)]; omega
        have P3 := Lib.hid (sdir_d HK.out.1 (HK.out.2.up (Fb_up (Nat.le_refl _))))
        rw [(dd_sdir hpar1).1, (dd_sdir hpar1).2] at P3
        have O3 := Lib.hid HK.out.2
        clear HK K0
        by_cases hlive : k < n
        · have hd : dE n k = 0 := by unfold dE; rw [if_pos hlive]
          have hm : ((min (k + 1) n : Nat) : Int) = ((min k n : Nat) : Int) + 1 := by omega
          rw [hd] at P3
          generalize ((min k n : Nat) : Int) = mk at *
          go_wp2_with fail
          refine P3.out.mono ?_
          rintro e w4 ⟨rfl, d4, o4⟩
          have K4 : Hid (Dsk (Fb w.heap.size) w4 (w.heap.size + 2) (Dd n (k + 1) b x.data.toList) 1000 ∧ Oth (Fb w.heap.size) w w4) := Lib.hid ⟨d4, O3.out.trans o4⟩
          clear P3 O3 d4 o4
          go_wp2
          go_roundw
          case rel => exact ⟨k + 1, by omega, by rw [hm], by go_num, K4⟩
          case measure => simp [intOf]; omega
        · have hd : dE n k = 8 := by unfold dE; rw [if_neg hlive]
          have hm : ((min (k + 1) n : Nat) : Int) = ((min k n : Nat) : Int) := by omega
          rw [hd] at P3
          generalize ((min k n : Nat) : Int) = mk at *
          go_wp2_with fail
          refine P3.out.mono ?_
          rintro e w4 ⟨rfl, d4, o4⟩
          have K4 : Hid (Dsk (Fb w.heap.size) w4 (w.heap.size + 2) (Dd n (k + 1) b x.data.toList) 1000 ∧ Oth (Fb w.heap.size) w w4) := Lib.hid ⟨d4, O3.out.trans o4⟩
          clear P3 O3 d4 o4
          go_wp2
          go_roundw
          case rel => exact ⟨k + 1, by omega, by rw [hm], by go_num, K4⟩
          case measure => simp [intOf]; omega
    · obtain rfl : k = 40 := by omega
      have hm : ((min 40 n : Nat) : Int) = (n : Int) := by omega
      rw [hm]
      have P4 := Lib.hid (dead_d HK.out.1)
      rw [dd_dead (show n < 40 by omega)] at P4
      have P5 := Lib.hid (read_d HK.out.1 ⟨#[97]⟩ (by decide) 0 1 (by omega) (by omega))
      have e5 : readS (Dd n 40 b x.data.toList) ⟨#[97]⟩ 0 1 = ⟨#[]⟩ ∧ readE (Dd n 40 b x.data.toList) ⟨#[97]⟩ 0 1 = 8 := by
        have hf := dd_find_dead (n := n) (i := 40) (b := b) (s := x.data.toList) (by omega)
        exact ⟨by unfold readS; rw [show (⟨#[97]⟩ : ByteArray).data.toList = [97] from rfl, hf.1], by unfold readE; rw [show (⟨#[97]⟩ : ByteArray).data.toList = [97] from rfl, hf.2]; rfl⟩
      rw [e5.1, e5.2] at P5
      obtain ⟨c1, c2, c3, c4⟩ := dd_crash (b := b) (s := x.data.toList) hn
      clear e5 K0 hk hlt
      go_wp2_with fail
      refine P4.out.mono ?_
      rintro e w4 ⟨rfl, rfl⟩
      go_wp2_with fail
      refine P5.out.mono ?_
      rintro e w5 ⟨rfl, hb5⟩
      have d5 := HK.out.1.below hb5
      have O5 := Lib.hid (HK.out.2.trans (Oth.of_below hb5))
      have P6 := Lib.hid (crash_d d5 (O5.out.up (Fb_up (Nat.le_refl _))) (.slice none 0 0) [] ⟨none, 0, rfl, by simp, by simp, fun i hi => by simp at hi⟩ true)
      clear P4 P5 HK hb5 d5
      go_wp2_with fail
      refine P6.out.mono ?_
      rintro e w6 ⟨rfl, d6, o6⟩
      have O6 := Lib.hid (O5.out.trans o6)
      generalize crashD (Dd n 40 b x.data.toList) [] true = D6 at *
      have P7 := Lib.hid (read_d d6 ⟨#[97]⟩ (by decide) 0 100 (by omega) (by omega))
      have e7 : readE D6 ⟨#[97]⟩ 0 100 = 0 := by unfold readE; rw [show (⟨#[97]⟩ : ByteArray).data.toList = [97] from rfl, c3]; rfl
      have K6 := Lib.hid d6
      have C1d := Lib.hid c1
      rw [e7] at P7
      clear P6 o6 O5 d6 e7 c3 c1
      by_cases hz : 0 < n
      · have e8 : readS D6 ⟨#[97]⟩ 0 100 = x := by
          unfold readS
          rw [show (⟨#[97]⟩ : ByteArray).data.toList = [97] from rfl, c2]
          simp only []
          rw [if_neg (by omega), c4, if_pos hz]
          exact read_whole x 100 (by omega)
        rw [e8] at P7
        clear e8 c2 c4
        go_wp2_with fail
        refine P7.out.mono ?_
        rintro e w7 ⟨rfl, hb7⟩
        have K7 := Lib.hid (K6.out.below hb7)
        have O7 := Lib.hid (O6.out.trans (Oth.of_below hb7))
        have P8 := Lib.hid (awake_any w7)
        clear P7 hb7 K6 O6
        go_wp2_with fail
        refine P8.out.mono ?_
        rintro e w8 ⟨rfl, hb8⟩
        have P9 := Lib.hid (dead_d (K7.out.below hb8))
        rw [C1d.out] at P9
        have O8 := Lib.hid (O7.out.trans (Oth.of_below hb8))
        clear P8 hb8 K7 O7
        go_wp2_with fail
        refine P9.out.mono ?_
        rintro e w9 ⟨rfl, rfl⟩
        go_wp2
        go_ret
        exact ⟨rfl, O8.out.fb (Nat.le_refl _)⟩
      · obtain rfl : n = 0 := by omega
        have e8 : readS D6 ⟨#[97]⟩ 0 100 = ⟨#[]⟩ := by
          unfold readS
          rw [show (⟨#[97]⟩ : ByteArray).data.toList = [97] from rfl, c2]
          simp only []
          rw [if_neg (by omega), c4]
          rfl
        rw [e8] at P7
        clear e8 c2 c4
        go_wp2_with fail
        refine P7.out.mono ?_
        rintro e w7 ⟨rfl, hb7⟩
        have K7 := Lib.hid (K6.out.below hb7)
        have O7 := Lib.hid (O6.out.trans (Oth.of_below hb7))
        have P8 := Lib.hid (awake_any w7)
        clear P7 hb7 K6 O6
        go_wp2_with fail
        refine P8.out.mono ?_
        rintro e w8 ⟨rfl, hb8⟩
        have P9 := Lib.hid (dead_d (K7.out.below hb8))
        rw [C1d.out] at P9
        have O8 := Lib.hid (O7.out.trans (Oth.of_below hb8))
        clear P8 hb8 K7 O7
        go_wp2_with fail
        refine P9.out.mono ?_
        rintro e w9 ⟨rfl, rfl⟩
        go_wp2
        go_ret
        exact ⟨rfl, O8.out.fb (Nat.le_refl _)⟩
end Go.Proofs.Ytaoifbdojleenaa
