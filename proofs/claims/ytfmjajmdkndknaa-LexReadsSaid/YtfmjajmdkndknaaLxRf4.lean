/-
  CONTRACT of the document's own answer for layer 11: one, at a word.
-/
import Derived.Test.YtfmjajmdkndknaaLxRf3
namespace Go.Proofs.Ytfmjajmdkndknaa
open Go.RowKit

set_option maxRecDepth 100000 in
set_option maxHeartbeats 4000000 in
theorem rone_wyW (s : ByteArray) (p : Nat) (v : Value) (w : World) (hs : s.size ≤ 10000) (hp : p < s.size) (M : Nat) (Tx : ByteArray) (_n10 : ((s[p].toNat : Int) == 10) = false) (CD : Hid (∀ W, Calls Try.prog 31 #[.int .u8 (s[p].toNat : Int)] W fun e w' => e = .returned (.bool false) ∧ w' = W)) (n46 : ((s[p].toNat : Int) == 46) = false) (CL : Hid (∀ W, Calls Try.prog 33 #[.int .u8 (s[p].toNat : Int)] W fun e w' => e = .returned (.bool true) ∧ w' = W)) (HM : Hid (M = p + ((s.data.toList.drop p).takeWhile isNm).length)) (hMs : M ≤ s.size) (hpM : p ≤ M) (hT : Hid (s.extract p M = Tx)) (hlt2 : M < s.size) (H40 : Hid ((s[M].toNat : Int) = 40)) (CW : Hid (∀ W, Calls Try.prog 34 #[.string Tx, .string ⟨#[66, 69, 71, 73, 78, 32, 69, 78, 68, 32, 102, 117, 110, 99, 116, 105, 111, 110, 32, 105, 102, 32, 101, 108, 115, 101, 32, 119, 104, 105, 108, 101, 32, 102, 111, 114, 32, 105, 110, 32, 98, 114, 101, 97, 107, 32, 99, 111, 110, 116, 105, 110, 117, 101, 32, 110, 101, 120, 116, 32, 101, 120, 105, 116, 32, 114, 101, 116, 117, 114, 110, 32, 100, 101, 108, 101, 116, 101, 32, 112, 114, 105, 110, 116, 32, 112, 114, 105, 110, 116, 102]⟩] W fun e w' => e = .returned (.bool true) ∧ w' = W)) (CB : Hid (∀ W, Calls Try.prog 34 #[.string Tx, .string ⟨#[108, 101, 110, 103, 116, 104, 32, 115, 117, 98, 115, 116, 114, 32, 105, 110, 100, 101, 120, 32, 115, 112, 108, 105, 116, 32, 115, 117, 98, 32, 103, 115, 117, 98, 32, 109, 97, 116, 99, 104, 32, 116, 111, 108, 111, 119, 101, 114, 32, 116, 111, 117, 112, 112, 101, 114, 32, 105, 110, 116, 32, 115, 112, 114, 105, 110, 116, 102, 32, 114, 97, 110, 100, 32, 115, 114, 97, 110, 100]⟩] W fun e w' => e = .returned (.bool false) ∧ w' = W)) (CN : Hid (∀ W, Calls Try.prog 34 #[.string Tx, .string ⟨#[103, 101, 116, 108, 105, 110, 101, 32, 115, 121, 115, 116, 101, 109, 32, 99, 108, 111, 115, 101, 32, 102, 102, 108, 117, 115, 104, 32, 115, 121, 115, 116, 105, 109, 101, 32, 115, 116, 114, 102, 116, 105, 109, 101]⟩] W fun e w' => e = .returned (.bool false) ∧ w' = W)) : Calls Try.prog 19 #[.string s, .int .i64 (p : Int), v] w (RoPost p w (.tok 7 Tx.data.toList (M - p))) := by
  have L1 := Lib.hid fun c W => rlt_any c W
  have D1 := Lib.hid fun c W => rdg_any c W
  have w9 : (p : Int) ≤ (M : Int) := by omega
  have w7 : (M : Int) ≤ (s.size : Int) := by omega
  go_enter Try.func19, Try.ntmps19
  go_wp2_with fail
  refine (CD.out _).mono ?_
  rintro e w1 ⟨rfl, rfl⟩
  go_wp2_with fail
  refine (CL.out _).mono ?_
  rintro e w1 ⟨rfl, rfl⟩
  go_wp2_with fail
  go_loop [10] (fun i => ∃ k : Nat, p ≤ k ∧ k ≤ s.size ∧ i = .int .i64 k ∧ Hid (M = k + ((s.data.toList.drop k).takeWhile isNm).length)) (fun i => s.size - (intOf i).toNat)
  case atStart => exact ⟨p, Nat.le_refl _, by omega, rfl, HM⟩
  case round =>
    obtain ⟨k, hpk, hk, rfl, HK⟩ := hrel
    have end_ : (∀ h : k < s.size, isNm s[k] = false) → k = M := fun h => by have := HK.out; rw [tw_stop _ s k h] at this; omega
    by_cases hlt : k < s.size
    · cases hl : isLt s[k] with
      | true =>
        have HN : Hid (M = (k + 1) + ((s.data.toList.drop (k + 1)).takeWhile isNm).length) := Lib.hid (by have := HK.out; rw [tw_step _ s k hlt (by unfold isNm; rw [hl]; rfl)] at this; omega)
        clear HK end_
        go_wp2_with ((with_reducible refine (L1.out _ _).mono ?_); rw [hl]; rintro e w1 ⟨rfl, rfl⟩)
        go_round
        case rel => exact ⟨k + 1, by omega, by omega, by go_num, HN⟩
        case measure => simp [intOf]; omega
      | false =>
        cases hd : isDg s[k] with
        | true =>
          have HN : Hid (M = (k + 1) + ((s.data.toList.drop (k + 1)).takeWhile isNm).length) := Lib.hid (by have := HK.out; rw [tw_step _ s k hlt (by unfold isNm; rw [hl, hd]; rfl)] at this; omega)
          clear HK end_
          go_wp2_with (first | ((with_reducible refine (L1.out _ _).mono ?_); rw [hl]; rintro e w1 ⟨rfl, rfl⟩) | ((with_reducible refine (D1.out _ _).mono ?_); rw [hd]; rintro e w1 ⟨rfl, rfl⟩))
          go_round
          case rel => exact ⟨k + 1, by omega, by omega, by go_num, HN⟩
          case measure => simp [intOf]; omega
        | false =>
          have hkM := end_ (fun _ => by unfold isNm; rw [hl, hd]; rfl)
          clear HK end_
          subst hkM
          have w5 : (k : Int) < (s.size : Int) := by omega
          go_wp2_with fail
          refine (L1.out s[k] _).mono ?_
          rw [hl]
          rintro e w1 ⟨rfl, rfl⟩
          go_wp2_with fail
          refine (D1.out s[k] _).mono ?_
          rw [hd]
          rintro e w1 ⟨rfl, rfl⟩
          have h40 := H40.out
          go_wp2_with fail
          rw [hT.out]
          refine (CW.out _).mono ?_
          rintro e w1 ⟨rfl, rfl⟩
          go_wp2_with fail
          refine (CB.out _).mono ?_
          rintro e w1 ⟨rfl, rfl⟩
          go_wp2_with fail
          refine (CN.out _).mono ?_
          rintro e w1 ⟨rfl, rfl⟩
          go_wp2_with fail
          refine bodyPost_ret (v := .tuple #[.agg #[.int .i64 7, .string Tx, .int .i64 (p : Int)], .int .i64 (k : Int)]) ?_ rfl ?_
          · simp [results, Try.results19, go_sem]
          · exact ro_tok (k := 7) (by omega) (Below.alloc (Below.refl _ _) (Nat.le_refl _) _)
    · have hkM := end_ (fun h => absurd h hlt)
      clear HK end_
      subst hkM
      exact absurd hlt2 hlt
set_option maxRecDepth 100000 in
set_option maxHeartbeats 4000000 in
theorem rone_wyB (s : ByteArray) (p : Nat) (v : Value) (w : World) (hs : s.size ≤ 10000) (hp : p < s.size) (M : Nat) (Tx : ByteArray) (_n10 : ((s[p].toNat : Int) == 10) = false) (CD : Hid (∀ W, Calls Try.prog 31 #[.int .u8 (s[p].toNat : Int)] W fun e w' => e = .returned (.bool false) ∧ w' = W)) (n46 : ((s[p].toNat : Int) == 46) = false) (CL : Hid (∀ W, Calls Try.prog 33 #[.int .u8 (s[p].toNat : Int)] W fun e w' => e = .returned (.bool true) ∧ w' = W)) (HM : Hid (M = p + ((s.data.toList.drop p).takeWhile isNm).length)) (hMs : M ≤ s.size) (hpM : p ≤ M) (hT : Hid (s.extract p M = Tx)) (hlt2 : M < s.size) (H40 : Hid ((s[M].toNat : Int) = 40)) (CW : Hid (∀ W, Calls Try.prog 34 #[.string Tx, .string ⟨#[66, 69, 71, 73, 78, 32, 69, 78, 68, 32, 102, 117, 110, 99, 116, 105, 111, 110, 32, 105, 102, 32, 101, 108, 115, 101, 32, 119, 104, 105, 108, 101, 32, 102, 111, 114, 32, 105, 110, 32, 98, 114, 101, 97, 107, 32, 99, 111, 110, 116, 105, 110, 117, 101, 32, 110, 101, 120, 116, 32, 101, 120, 105, 116, 32, 114, 101, 116, 117, 114, 110, 32, 100, 101, 108, 101, 116, 101, 32, 112, 114, 105, 110, 116, 32, 112, 114, 105, 110, 116, 102]⟩] W fun e w' => e = .returned (.bool false) ∧ w' = W)) (CB : Hid (∀ W, Calls Try.prog 34 #[.string Tx, .string ⟨#[108, 101, 110, 103, 116, 104, 32, 115, 117, 98, 115, 116, 114, 32, 105, 110, 100, 101, 120, 32, 115, 112, 108, 105, 116, 32, 115, 117, 98, 32, 103, 115, 117, 98, 32, 109, 97, 116, 99, 104, 32, 116, 111, 108, 111, 119, 101, 114, 32, 116, 111, 117, 112, 112, 101, 114, 32, 105, 110, 116, 32, 115, 112, 114, 105, 110, 116, 102, 32, 114, 97, 110, 100, 32, 115, 114, 97, 110, 100]⟩] W fun e w' => e = .returned (.bool true) ∧ w' = W)) (CN : Hid (∀ W, Calls Try.prog 34 #[.string Tx, .string ⟨#[103, 101, 116, 108, 105, 110, 101, 32, 115, 121, 115, 116, 101, 109, 32, 99, 108, 111, 115, 101, 32, 102, 102, 108, 117, 115, 104, 32, 115, 121, 115, 116, 105, 109, 101, 32, 115, 116, 114, 102, 116, 105, 109, 101]⟩] W fun e w' => e = .returned (.bool false) ∧ w' = W)) : Calls Try.prog 19 #[.string s, .int .i64 (p : Int), v] w (RoPost p w (.tok 9 Tx.data.toList (M - p))) := by
  have L1 := Lib.hid fun c W => rlt_any c W
  have D1 := Lib.hid fun c W => rdg_any c W
  have w9 : (p : Int) ≤ (M : Int) := by omega
  have w7 : (M : Int) ≤ (s.size : Int) := by omega
  go_enter Try.func19, Try.ntmps19
  go_wp2_with fail
  refine (CD.out _).mono ?_
  rintro e w1 ⟨rfl, rfl⟩
  go_wp2_with fail
  refine (CL.out _).mono ?_
  rintro e w1 ⟨rfl, rfl⟩
  go_wp2_with fail
  go_loop [10] (fun i => ∃ k : Nat, p ≤ k ∧ k ≤ s.size ∧ i = .int .i64 k ∧ Hid (M = k + ((s.data.toList.drop k).takeWhile isNm).length)) (fun i => s.size - (intOf i).toNat)
  case atStart => exact ⟨p, Nat.le_refl _, by omega, rfl, HM⟩
  case round =>
    obtain ⟨k, hpk, hk, rfl, HK⟩ := hrel
    have end_ : (∀ h : k < s.size, isNm s[k] = false) → k = M := fun h => by have := HK.out; rw [tw_stop _ s k h] at this; omega
    by_cases hlt : k < s.size
    · cases hl : isLt s[k] with
      | true =>
        have HN : Hid (M = (k + 1) + ((s.data.toList.drop (k + 1)).takeWhile isNm).length) := Lib.hid (by have := HK.out; rw [tw_step _ s k hlt (by unfold isNm; rw [hl]; rfl)] at this; omega)
        clear HK end_
        go_wp2_with ((with_reducible refine (L1.out _ _).mono ?_); rw [hl]; rintro e w1 ⟨rfl, rfl⟩)
        go_round
        case rel => exact ⟨k + 1, by omega, by omega, by go_num, HN⟩
        case measure => simp [intOf]; omega
      | false =>
        cases hd : isDg s[k] with
        | true =>
          have HN : Hid (M = (k + 1) + ((s.data.toList.drop (k + 1)).takeWhile isNm).length) := Lib.hid (by have := HK.out; rw [tw_step _ s k hlt (by unfold isNm; rw [hl, hd]; rfl)] at this; omega)
          clear HK end_
          go_wp2_with (first | ((with_reducible refine (L1.out _ _).mono ?_); rw [hl]; rintro e w1 ⟨rfl, rfl⟩) | ((with_reducible refine (D1.out _ _).mono ?_); rw [hd]; rintro e w1 ⟨rfl, rfl⟩))
          go_round
          case rel => exact ⟨k + 1, by omega, by omega, by go_num, HN⟩
          case measure => simp [intOf]; omega
        | false =>
          have hkM := end_ (fun _ => by unfold isNm; rw [hl, hd]; rfl)
          clear HK end_
          subst hkM
          have w5 : (k : Int) < (s.size : Int) := by omega
          go_wp2_with fail
          refine (L1.out s[k] _).mono ?_
          rw [hl]
          rintro e w1 ⟨rfl, rfl⟩
          go_wp2_with fail
          refine (D1.out s[k] _).mono ?_
          rw [hd]
          rintro e w1 ⟨rfl, rfl⟩
          have h40 := H40.out
          go_wp2_with fail
          rw [hT.out]
          refine (CW.out _).mono ?_
          rintro e w1 ⟨rfl, rfl⟩
          go_wp2_with fail
          refine (CB.out _).mono ?_
          rintro e w1 ⟨rfl, rfl⟩
          go_wp2_with fail
          refine (CN.out _).mono ?_
          rintro e w1 ⟨rfl, rfl⟩
          go_wp2_with fail
          refine bodyPost_ret (v := .tuple #[.agg #[.int .i64 9, .string Tx, .int .i64 (p : Int)], .int .i64 (k : Int)]) ?_ rfl ?_
          · simp [results, Try.results19, go_sem]
          · exact ro_tok (k := 9) (by omega) (Below.alloc (Below.refl _ _) (Nat.le_refl _) _)
    · have hkM := end_ (fun h => absurd h hlt)
      clear HK end_
      subst hkM
      exact absurd hlt2 hlt
set_option maxRecDepth 100000 in
set_option maxHeartbeats 4000000 in
theorem rone_wyN (s : ByteArray) (p : Nat) (v : Value) (w : World) (hs : s.size ≤ 10000) (hp : p < s.size) (M : Nat) (Tx : ByteArray) (_n10 : ((s[p].toNat : Int) == 10) = false) (CD : Hid (∀ W, Calls Try.prog 31 #[.int .u8 (s[p].toNat : Int)] W fun e w' => e = .returned (.bool false) ∧ w' = W)) (n46 : ((s[p].toNat : Int) == 46) = false) (CL : Hid (∀ W, Calls Try.prog 33 #[.int .u8 (s[p].toNat : Int)] W fun e w' => e = .returned (.bool true) ∧ w' = W)) (HM : Hid (M = p + ((s.data.toList.drop p).takeWhile isNm).length)) (hMs : M ≤ s.size) (hpM : p ≤ M) (hT : Hid (s.extract p M = Tx)) (hlt2 : M < s.size) (H40 : Hid ((s[M].toNat : Int) = 40)) (CW : Hid (∀ W, Calls Try.prog 34 #[.string Tx, .string ⟨#[66, 69, 71, 73, 78, 32, 69, 78, 68, 32, 102, 117, 110, 99, 116, 105, 111, 110, 32, 105, 102, 32, 101, 108, 115, 101, 32, 119, 104, 105, 108, 101, 32, 102, 111, 114, 32, 105, 110, 32, 98, 114, 101, 97, 107, 32, 99, 111, 110, 116, 105, 110, 117, 101, 32, 110, 101, 120, 116, 32, 101, 120, 105, 116, 32, 114, 101, 116, 117, 114, 110, 32, 100, 101, 108, 101, 116, 101, 32, 112, 114, 105, 110, 116, 32, 112, 114, 105, 110, 116, 102]⟩] W fun e w' => e = .returned (.bool false) ∧ w' = W)) (CB : Hid (∀ W, Calls Try.prog 34 #[.string Tx, .string ⟨#[108, 101, 110, 103, 116, 104, 32, 115, 117, 98, 115, 116, 114, 32, 105, 110, 100, 101, 120, 32, 115, 112, 108, 105, 116, 32, 115, 117, 98, 32, 103, 115, 117, 98, 32, 109, 97, 116, 99, 104, 32, 116, 111, 108, 111, 119, 101, 114, 32, 116, 111, 117, 112, 112, 101, 114, 32, 105, 110, 116, 32, 115, 112, 114, 105, 110, 116, 102, 32, 114, 97, 110, 100, 32, 115, 114, 97, 110, 100]⟩] W fun e w' => e = .returned (.bool false) ∧ w' = W)) (CN : Hid (∀ W, Calls Try.prog 34 #[.string Tx, .string ⟨#[103, 101, 116, 108, 105, 110, 101, 32, 115, 121, 115, 116, 101, 109, 32, 99, 108, 111, 115, 101, 32, 102, 102, 108, 117, 115, 104, 32, 115, 121, 115, 116, 105, 109, 101, 32, 115, 116, 114, 102, 116, 105, 109, 101]⟩] W fun e w' => e = .returned (.bool true) ∧ w' = W)) : Calls Try.prog 19 #[.string s, .int .i64 (p : Int), v] w (RoPost p w (.tok 10 Tx.data.toList (M - p))) := by
  have L1 := Lib.hid fun c W => rlt_any c W
  have D1 := Lib.hid fun c W => rdg_any c W
  have w9 : (p : Int) ≤ (M : Int) := by omega
  have w7 : (M : Int) ≤ (s.size : Int) := by omega
  go_enter Try.func19, Try.ntmps19
  go_wp2_with fail
  refine (CD.out _).mono ?_
  rintro e w1 ⟨rfl, rfl⟩
  go_wp2_with fail
  refine (CL.out _).mono ?_
  rintro e w1 ⟨rfl, rfl⟩
  go_wp2_with fail
  go_loop [10] (fun i => ∃ k : Nat, p ≤ k ∧ k ≤ s.size ∧ i = .int .i64 k ∧ Hid (M = k + ((s.data.toList.drop k).takeWhile isNm).length)) (fun i => s.size - (intOf i).toNat)
  case atStart => exact ⟨p, Nat.le_refl _, by omega, rfl, HM⟩
  case round =>
    obtain ⟨k, hpk, hk, rfl, HK⟩ := hrel
    have end_ : (∀ h : k < s.size, isNm s[k] = false) → k = M := fun h => by have := HK.out; rw [tw_stop _ s k h] at this; omega
    by_cases hlt : k < s.size
    · cases hl : isLt s[k] with
      | true =>
        have HN : Hid (M = (k + 1) + ((s.data.toList.drop (k + 1)).takeWhile isNm).length) := Lib.hid (by have := HK.out; rw [tw_step _ s k hlt (by unfold isNm; rw [hl]; rfl)] at this; omega)
        clear HK end_
        go_wp2_with ((with_reducible refine (L1.out _ _).mono ?_); rw [hl]; rintro e w1 ⟨rfl, rfl⟩)
        go_round
        case rel => exact ⟨k + 1, by omega, by omega, by go_num, HN⟩
        case measure => simp [intOf]; omega
      | false =>
        cases hd : isDg s[k] with
        | true =>
          have HN : Hid (M = (k + 1) + ((s.data.toList.drop (k + 1)).takeWhile isNm).length) := Lib.hid (by have := HK.out; rw [tw_step _ s k hlt (by unfold isNm; rw [hl, hd]; rfl)] at this; omega)
          clear HK end_
          go_wp2_with (first | ((with_reducible refine (L1.out _ _).mono ?_); rw [hl]; rintro e w1 ⟨rfl, rfl⟩) | ((with_reducible refine (D1.out _ _).mono ?_); rw [hd]; rintro e w1 ⟨rfl, rfl⟩))
          go_round
          case rel => exact ⟨k + 1, by omega, by omega, by go_num, HN⟩
          case measure => simp [intOf]; omega
        | false =>
          have hkM := end_ (fun _ => by unfold isNm; rw [hl, hd]; rfl)
          clear HK end_
          subst hkM
          have w5 : (k : Int) < (s.size : Int) := by omega
          go_wp2_with fail
          refine (L1.out s[k] _).mono ?_
          rw [hl]
          rintro e w1 ⟨rfl, rfl⟩
          go_wp2_with fail
          refine (D1.out s[k] _).mono ?_
          rw [hd]
          rintro e w1 ⟨rfl, rfl⟩
          have h40 := H40.out
          go_wp2_with fail
          rw [hT.out]
          refine (CW.out _).mono ?_
          rintro e w1 ⟨rfl, rfl⟩
          go_wp2_with fail
          refine (CB.out _).mono ?_
          rintro e w1 ⟨rfl, rfl⟩
          go_wp2_with fail
          refine (CN.out _).mono ?_
          rintro e w1 ⟨rfl, rfl⟩
          go_wp2_with fail
          refine bodyPost_ret (v := .tuple #[.agg #[.int .i64 10, .string Tx, .int .i64 (p : Int)], .int .i64 (k : Int)]) ?_ rfl ?_
          · simp [results, Try.results19, go_sem]
          · exact ro_tok (k := 10) (by omega) (Below.alloc (Below.refl _ _) (Nat.le_refl _) _)
    · have hkM := end_ (fun h => absurd h hlt)
      clear HK end_
      subst hkM
      exact absurd hlt2 hlt
set_option maxRecDepth 100000 in
set_option maxHeartbeats 4000000 in
theorem rone_wyO (s : ByteArray) (p : Nat) (v : Value) (w : World) (hs : s.size ≤ 10000) (hp : p < s.size) (M : Nat) (Tx : ByteArray) (_n10 : ((s[p].toNat : Int) == 10) = false) (CD : Hid (∀ W, Calls Try.prog 31 #[.int .u8 (s[p].toNat : Int)] W fun e w' => e = .returned (.bool false) ∧ w' = W)) (n46 : ((s[p].toNat : Int) == 46) = false) (CL : Hid (∀ W, Calls Try.prog 33 #[.int .u8 (s[p].toNat : Int)] W fun e w' => e = .returned (.bool true) ∧ w' = W)) (HM : Hid (M = p + ((s.data.toList.drop p).takeWhile isNm).length)) (hMs : M ≤ s.size) (hpM : p ≤ M) (hT : Hid (s.extract p M = Tx)) (hlt2 : M < s.size) (H40 : Hid ((s[M].toNat : Int) = 40)) (CW : Hid (∀ W, Calls Try.prog 34 #[.string Tx, .string ⟨#[66, 69, 71, 73, 78, 32, 69, 78, 68, 32, 102, 117, 110, 99, 116, 105, 111, 110, 32, 105, 102, 32, 101, 108, 115, 101, 32, 119, 104, 105, 108, 101, 32, 102, 111, 114, 32, 105, 110, 32, 98, 114, 101, 97, 107, 32, 99, 111, 110, 116, 105, 110, 117, 101, 32, 110, 101, 120, 116, 32, 101, 120, 105, 116, 32, 114, 101, 116, 117, 114, 110, 32, 100, 101, 108, 101, 116, 101, 32, 112, 114, 105, 110, 116, 32, 112, 114, 105, 110, 116, 102]⟩] W fun e w' => e = .returned (.bool false) ∧ w' = W)) (CB : Hid (∀ W, Calls Try.prog 34 #[.string Tx, .string ⟨#[108, 101, 110, 103, 116, 104, 32, 115, 117, 98, 115, 116, 114, 32, 105, 110, 100, 101, 120, 32, 115, 112, 108, 105, 116, 32, 115, 117, 98, 32, 103, 115, 117, 98, 32, 109, 97, 116, 99, 104, 32, 116, 111, 108, 111, 119, 101, 114, 32, 116, 111, 117, 112, 112, 101, 114, 32, 105, 110, 116, 32, 115, 112, 114, 105, 110, 116, 102, 32, 114, 97, 110, 100, 32, 115, 114, 97, 110, 100]⟩] W fun e w' => e = .returned (.bool false) ∧ w' = W)) (CN : Hid (∀ W, Calls Try.prog 34 #[.string Tx, .string ⟨#[103, 101, 116, 108, 105, 110, 101, 32, 115, 121, 115, 116, 101, 109, 32, 99, 108, 111, 115, 101, 32, 102, 102, 108, 117, 115, 104, 32, 115, 121, 115, 116, 105, 109, 101, 32, 115, 116, 114, 102, 116, 105, 109, 101]⟩] W fun e w' => e = .returned (.bool false) ∧ w' = W)) : Calls Try.prog 19 #[.string s, .int .i64 (p : Int), v] w (RoPost p w (.tok 6 Tx.data.toList (M - p))) := by
  have L1 := Lib.hid fun c W => rlt_any c W
  have D1 := Lib.hid fun c W => rdg_any c W
  have w9 : (p : Int) ≤ (M : Int) := by omega
  have w7 : (M : Int) ≤ (s.size : Int) := by omega
  go_enter Try.func19, Try.ntmps19
  go_wp2_with fail
  refine (CD.out _).mono ?_
  rintro e w1 ⟨rfl, rfl⟩
  go_wp2_with fail
  refine (CL.out _).mono ?_
  rintro e w1 ⟨rfl, rfl⟩
  go_wp2_with fail
  go_loop [10] (fun i => ∃ k : Nat, p ≤ k ∧ k ≤ s.size ∧ i = .int .i64 k ∧ Hid (M = k + ((s.data.toList.drop k).takeWhile isNm).length)) (fun i => s.size - (intOf i).toNat)
  case atStart => exact ⟨p, Nat.le_refl _, by omega, rfl, HM⟩
  case round =>
    obtain ⟨k, hpk, hk, rfl, HK⟩ := hrel
    have end_ : (∀ h : k < s.size, isNm s[k] = false) → k = M := fun h => by have := HK.out; rw [tw_stop _ s k h] at this; omega
    by_cases hlt : k < s.size
    · cases hl : isLt s[k] with
      | true =>
        have HN : Hid (M = (k + 1) + ((s.data.toList.drop (k + 1)).takeWhile isNm).length) := Lib.hid (by have := HK.out; rw [tw_step _ s k hlt (by unfold isNm; rw [hl]; rfl)] at this; omega)
        clear HK end_
        go_wp2_with ((with_reducible refine (L1.out _ _).mono ?_); rw [hl]; rintro e w1 ⟨rfl, rfl⟩)
        go_round
        case rel => exact ⟨k + 1, by omega, by omega, by go_num, HN⟩
        case measure => simp [intOf]; omega
      | false =>
        cases hd : isDg s[k] with
        | true =>
          have HN : Hid (M = (k + 1) + ((s.data.toList.drop (k + 1)).takeWhile isNm).length) := Lib.hid (by have := HK.out; rw [tw_step _ s k hlt (by unfold isNm; rw [hl, hd]; rfl)] at this; omega)
          clear HK end_
          go_wp2_with (first | ((with_reducible refine (L1.out _ _).mono ?_); rw [hl]; rintro e w1 ⟨rfl, rfl⟩) | ((with_reducible refine (D1.out _ _).mono ?_); rw [hd]; rintro e w1 ⟨rfl, rfl⟩))
          go_round
          case rel => exact ⟨k + 1, by omega, by omega, by go_num, HN⟩
          case measure => simp [intOf]; omega
        | false =>
          have hkM := end_ (fun _ => by unfold isNm; rw [hl, hd]; rfl)
          clear HK end_
          subst hkM
          have w5 : (k : Int) < (s.size : Int) := by omega
          go_wp2_with fail
          refine (L1.out s[k] _).mono ?_
          rw [hl]
          rintro e w1 ⟨rfl, rfl⟩
          go_wp2_with fail
          refine (D1.out s[k] _).mono ?_
          rw [hd]
          rintro e w1 ⟨rfl, rfl⟩
          have h40 := H40.out
          go_wp2_with fail
          rw [hT.out]
          refine (CW.out _).mono ?_
          rintro e w1 ⟨rfl, rfl⟩
          go_wp2_with fail
          refine (CB.out _).mono ?_
          rintro e w1 ⟨rfl, rfl⟩
          go_wp2_with fail
          refine (CN.out _).mono ?_
          rintro e w1 ⟨rfl, rfl⟩
          go_wp2_with fail
          refine bodyPost_ret (v := .tuple #[.agg #[.int .i64 6, .string Tx, .int .i64 (p : Int)], .int .i64 (k : Int)]) ?_ rfl ?_
          · simp [results, Try.results19, go_sem]
          · exact ro_tok (k := 6) (by omega) (Below.alloc (Below.refl _ _) (Nat.le_refl _) _)
    · have hkM := end_ (fun h => absurd h hlt)
      clear HK end_
      subst hkM
      exact absurd hlt2 hlt
set_option maxRecDepth 100000 in
set_option maxHeartbeats 4000000 in
theorem rone_wn1W (s : ByteArray) (p : Nat) (v : Value) (w : World) (hs : s.size ≤ 10000) (hp : p < s.size) (M : Nat) (Tx : ByteArray) (_n10 : ((s[p].toNat : Int) == 10) = false) (CD : Hid (∀ W, Calls Try.prog 31 #[.int .u8 (s[p].toNat : Int)] W fun e w' => e = .returned (.bool false) ∧ w' = W)) (n46 : ((s[p].toNat : Int) == 46) = false) (CL : Hid (∀ W, Calls Try.prog 33 #[.int .u8 (s[p].toNat : Int)] W fun e w' => e = .returned (.bool true) ∧ w' = W)) (HM : Hid (M = p + ((s.data.toList.drop p).takeWhile isNm).length)) (hMs : M ≤ s.size) (hpM : p ≤ M) (hT : Hid (s.extract p M = Tx)) (hlt2 : ¬ M < s.size) (CW : Hid (∀ W, Calls Try.prog 34 #[.string Tx, .string ⟨#[66, 69, 71, 73, 78, 32, 69, 78, 68, 32, 102, 117, 110, 99, 116, 105, 111, 110, 32, 105, 102, 32, 101, 108, 115, 101, 32, 119, 104, 105, 108, 101, 32, 102, 111, 114, 32, 105, 110, 32, 98, 114, 101, 97, 107, 32, 99, 111, 110, 116, 105, 110, 117, 101, 32, 110, 101, 120, 116, 32, 101, 120, 105, 116, 32, 114, 101, 116, 117, 114, 110, 32, 100, 101, 108, 101, 116, 101, 32, 112, 114, 105, 110, 116, 32, 112, 114, 105, 110, 116, 102]⟩] W fun e w' => e = .returned (.bool true) ∧ w' = W)) (CB : Hid (∀ W, Calls Try.prog 34 #[.string Tx, .string ⟨#[108, 101, 110, 103, 116, 104, 32, 115, 117, 98, 115, 116, 114, 32, 105, 110, 100, 101, 120, 32, 115, 112, 108, 105, 116, 32, 115, 117, 98, 32, 103, 115, 117, 98, 32, 109, 97, 116, 99, 104, 32, 116, 111, 108, 111, 119, 101, 114, 32, 116, 111, 117, 112, 112, 101, 114, 32, 105, 110, 116, 32, 115, 112, 114, 105, 110, 116, 102, 32, 114, 97, 110, 100, 32, 115, 114, 97, 110, 100]⟩] W fun e w' => e = .returned (.bool false) ∧ w' = W)) (CN : Hid (∀ W, Calls Try.prog 34 #[.string Tx, .string ⟨#[103, 101, 116, 108, 105, 110, 101, 32, 115, 121, 115, 116, 101, 109, 32, 99, 108, 111, 115, 101, 32, 102, 102, 108, 117, 115, 104, 32, 115, 121, 115, 116, 105, 109, 101, 32, 115, 116, 114, 102, 116, 105, 109, 101]⟩] W fun e w' => e = .returned (.bool false) ∧ w' = W)) : Calls Try.prog 19 #[.string s, .int .i64 (p : Int), v] w (RoPost p w (.tok 7 Tx.data.toList (M - p))) := by
  have L1 := Lib.hid fun c W => rlt_any c W
  have D1 := Lib.hid fun c W => rdg_any c W
  have w9 : (p : Int) ≤ (M : Int) := by omega
  have w7 : (M : Int) ≤ (s.size : Int) := by omega
  go_enter Try.func19, Try.ntmps19
  go_wp2_with fail
  refine (CD.out _).mono ?_
  rintro e w1 ⟨rfl, rfl⟩
  go_wp2_with fail
  refine (CL.out _).mono ?_
  rintro e w1 ⟨rfl, rfl⟩
  go_wp2_with fail
  go_loop [10] (fun i => ∃ k : Nat, p ≤ k ∧ k ≤ s.size ∧ i = .int .i64 k ∧ Hid (M = k + ((s.data.toList.drop k).takeWhile isNm).length)) (fun i => s.size - (intOf i).toNat)
  case atStart => exact ⟨p, Nat.le_refl _, by omega, rfl, HM⟩
  case round =>
    obtain ⟨k, hpk, hk, rfl, HK⟩ := hrel
    have end_ : (∀ h : k < s.size, isNm s[k] = false) → k = M := fun h => by have := HK.out; rw [tw_stop _ s k h] at this; omega
    by_cases hlt : k < s.size
    · cases hl : isLt s[k] with
      | true =>
        have HN : Hid (M = (k + 1) + ((s.data.toList.drop (k + 1)).takeWhile isNm).length) := Lib.hid (by have := HK.out; rw [tw_step _ s k hlt (by unfold isNm; rw [hl]; rfl)] at this; omega)
        clear HK end_
        go_wp2_with ((with_reducible refine (L1.out _ _).mono ?_); rw [hl]; rintro e w1 ⟨rfl, rfl⟩)
        go_round
        case rel => exact ⟨k + 1, by omega, by omega, by go_num, HN⟩
        case measure => simp [intOf]; omega
      | false =>
        cases hd : isDg s[k] with
        | true =>
          have HN : Hid (M = (k + 1) + ((s.data.toList.drop (k + 1)).takeWhile isNm).length) := Lib.hid (by have := HK.out; rw [tw_step _ s k hlt (by unfold isNm; rw [hl, hd]; rfl)] at this; omega)
          clear HK end_
          go_wp2_with (first | ((with_reducible refine (L1.out _ _).mono ?_); rw [hl]; rintro e w1 ⟨rfl, rfl⟩) | ((with_reducible refine (D1.out _ _).mono ?_); rw [hd]; rintro e w1 ⟨rfl, rfl⟩))
          go_round
          case rel => exact ⟨k + 1, by omega, by omega, by go_num, HN⟩
          case measure => simp [intOf]; omega
        | false =>
          have hkM := end_ (fun _ => by unfold isNm; rw [hl, hd]; rfl)
          clear HK end_
          subst hkM
          exact absurd hlt hlt2
    · have hkM := end_ (fun h => absurd h hlt)
      clear HK end_
      subst hkM
      have w5 : ¬ (k : Int) < (s.size : Int) := by omega
      go_wp2_with fail
      rw [hT.out]
      refine (CW.out _).mono ?_
      rintro e w1 ⟨rfl, rfl⟩
      go_wp2_with fail
      refine (CB.out _).mono ?_
      rintro e w1 ⟨rfl, rfl⟩
      go_wp2_with fail
      refine (CN.out _).mono ?_
      rintro e w1 ⟨rfl, rfl⟩
      go_wp2_with fail
      refine bodyPost_ret (v := .tuple #[.agg #[.int .i64 7, .string Tx, .int .i64 (p : Int)], .int .i64 (k : Int)]) ?_ rfl ?_
      · simp [results, Try.results19, go_sem]
      · exact ro_tok (k := 7) (by omega) (Below.alloc (Below.refl _ _) (Nat.le_refl _) _)
set_option maxRecDepth 100000 in
set_option maxHeartbeats 4000000 in
theorem rone_wn1B (s : ByteArray) (p : Nat) (v : Value) (w : World) (hs : s.size ≤ 10000) (hp : p < s.size) (M : Nat) (Tx : ByteArray) (_n10 : ((s[p].toNat : Int) == 10) = false) (CD : Hid (∀ W, Calls Try.prog 31 #[.int .u8 (s[p].toNat : Int)] W fun e w' => e = .returned (.bool false) ∧ w' = W)) (n46 : ((s[p].toNat : Int) == 46) = false) (CL : Hid (∀ W, Calls Try.prog 33 #[.int .u8 (s[p].toNat : Int)] W fun e w' => e = .returned (.bool true) ∧ w' = W)) (HM : Hid (M = p + ((s.data.toList.drop p).takeWhile isNm).length)) (hMs : M ≤ s.size) (hpM : p ≤ M) (hT : Hid (s.extract p M = Tx)) (hlt2 : ¬ M < s.size) (CW : Hid (∀ W, Calls Try.prog 34 #[.string Tx, .string ⟨#[66, 69, 71, 73, 78, 32, 69, 78, 68, 32, 102, 117, 110, 99, 116, 105, 111, 110, 32, 105, 102, 32, 101, 108, 115, 101, 32, 119, 104, 105, 108, 101, 32, 102, 111, 114, 32, 105, 110, 32, 98, 114, 101, 97, 107, 32, 99, 111, 110, 116, 105, 110, 117, 101, 32, 110, 101, 120, 116, 32, 101, 120, 105, 116, 32, 114, 101, 116, 117, 114, 110, 32, 100, 101, 108, 101, 116, 101, 32, 112, 114, 105, 110, 116, 32, 112, 114, 105, 110, 116, 102]⟩] W fun e w' => e = .returned (.bool false) ∧ w' = W)) (CB : Hid (∀ W, Calls Try.prog 34 #[.string Tx, .string ⟨#[108, 101, 110, 103, 116, 104, 32, 115, 117, 98, 115, 116, 114, 32, 105, 110, 100, 101, 120, 32, 115, 112, 108, 105, 116, 32, 115, 117, 98, 32, 103, 115, 117, 98, 32, 109, 97, 116, 99, 104, 32, 116, 111, 108, 111, 119, 101, 114, 32, 116, 111, 117, 112, 112, 101, 114, 32, 105, 110, 116, 32, 115, 112, 114, 105, 110, 116, 102, 32, 114, 97, 110, 100, 32, 115, 114, 97, 110, 100]⟩] W fun e w' => e = .returned (.bool true) ∧ w' = W)) (CN : Hid (∀ W, Calls Try.prog 34 #[.string Tx, .string ⟨#[103, 101, 116, 108, 105, 110, 101, 32, 115, 121, 115, 116, 101, 109, 32, 99, 108, 111, 115, 101, 32, 102, 102, 108, 117, 115, 104, 32, 115, 121, 115, 116, 105, 109, 101, 32, 115, 116, 114, 102, 116, 105, 109, 101]⟩] W fun e w' => e = .returned (.bool false) ∧ w' = W)) : Calls Try.prog 19 #[.string s, .int .i64 (p : Int), v] w (RoPost p w (.tok 9 Tx.data.toList (M - p))) := by
  have L1 := Lib.hid fun c W => rlt_any c W
  have D1 := Lib.hid fun c W => rdg_any c W
  have w9 : (p : Int) ≤ (M : Int) := by omega
  have w7 : (M : Int) ≤ (s.size : Int) := by omega
  go_enter Try.func19, Try.ntmps19
  go_wp2_with fail
  refine (CD.out _).mono ?_
  rintro e w1 ⟨rfl, rfl⟩
  go_wp2_with fail
  refine (CL.out _).mono ?_
  rintro e w1 ⟨rfl, rfl⟩
  go_wp2_with fail
  go_loop [10] (fun i => ∃ k : Nat, p ≤ k ∧ k ≤ s.size ∧ i = .int .i64 k ∧ Hid (M = k + ((s.data.toList.drop k).takeWhile isNm).length)) (fun i => s.size - (intOf i).toNat)
  case atStart => exact ⟨p, Nat.le_refl _, by omega, rfl, HM⟩
  case round =>
    obtain ⟨k, hpk, hk, rfl, HK⟩ := hrel
    have end_ : (∀ h : k < s.size, isNm s[k] = false) → k = M := fun h => by have := HK.out; rw [tw_stop _ s k h] at this; omega
    by_cases hlt : k < s.size
    · cases hl : isLt s[k] with
      | true =>
        have HN : Hid (M = (k + 1) + ((s.data.toList.drop (k + 1)).takeWhile isNm).length) := Lib.hid (by have := HK.out; rw [tw_step _ s k hlt (by unfold isNm; rw [hl]; rfl)] at this; omega)
        clear HK end_
        go_wp2_with ((with_reducible refine (L1.out _ _).mono ?_); rw [hl]; rintro e w1 ⟨rfl, rfl⟩)
        go_round
        case rel => exact ⟨k + 1, by omega, by omega, by go_num, HN⟩
        case measure => simp [intOf]; omega
      | false =>
        cases hd : isDg s[k] with
        | true =>
          have HN : Hid (M = (k + 1) + ((s.data.toList.drop (k + 1)).takeWhile isNm).length) := Lib.hid (by have := HK.out; rw [tw_step _ s k hlt (by unfold isNm; rw [hl, hd]; rfl)] at this; omega)
          clear HK end_
          go_wp2_with (first | ((with_reducible refine (L1.out _ _).mono ?_); rw [hl]; rintro e w1 ⟨rfl, rfl⟩) | ((with_reducible refine (D1.out _ _).mono ?_); rw [hd]; rintro e w1 ⟨rfl, rfl⟩))
          go_round
          case rel => exact ⟨k + 1, by omega, by omega, by go_num, HN⟩
          case measure => simp [intOf]; omega
        | false =>
          have hkM := end_ (fun _ => by unfold isNm; rw [hl, hd]; rfl)
          clear HK end_
          subst hkM
          exact absurd hlt hlt2
    · have hkM := end_ (fun h => absurd h hlt)
      clear HK end_
      subst hkM
      have w5 : ¬ (k : Int) < (s.size : Int) := by omega
      go_wp2_with fail
      rw [hT.out]
      refine (CW.out _).mono ?_
      rintro e w1 ⟨rfl, rfl⟩
      go_wp2_with fail
      refine (CB.out _).mono ?_
      rintro e w1 ⟨rfl, rfl⟩
      go_wp2_with fail
      refine (CN.out _).mono ?_
      rintro e w1 ⟨rfl, rfl⟩
      go_wp2_with fail
      refine bodyPost_ret (v := .tuple #[.agg #[.int .i64 9, .string Tx, .int .i64 (p : Int)], .int .i64 (k : Int)]) ?_ rfl ?_
      · simp [results, Try.results19, go_sem]
      · exact ro_tok (k := 9) (by omega) (Below.alloc (Below.refl _ _) (Nat.le_refl _) _)
set_option maxRecDepth 100000 in
set_option maxHeartbeats 4000000 in
theorem rone_wn1N (s : ByteArray) (p : Nat) (v : Value) (w : World) (hs : s.size ≤ 10000) (hp : p < s.size) (M : Nat) (Tx : ByteArray) (_n10 : ((s[p].toNat : Int) == 10) = false) (CD : Hid (∀ W, Calls Try.prog 31 #[.int .u8 (s[p].toNat : Int)] W fun e w' => e = .returned (.bool false) ∧ w' = W)) (n46 : ((s[p].toNat : Int) == 46) = false) (CL : Hid (∀ W, Calls Try.prog 33 #[.int .u8 (s[p].toNat : Int)] W fun e w' => e = .returned (.bool true) ∧ w' = W)) (HM : Hid (M = p + ((s.data.toList.drop p).takeWhile isNm).length)) (hMs : M ≤ s.size) (hpM : p ≤ M) (hT : Hid (s.extract p M = Tx)) (hlt2 : ¬ M < s.size) (CW : Hid (∀ W, Calls Try.prog 34 #[.string Tx, .string ⟨#[66, 69, 71, 73, 78, 32, 69, 78, 68, 32, 102, 117, 110, 99, 116, 105, 111, 110, 32, 105, 102, 32, 101, 108, 115, 101, 32, 119, 104, 105, 108, 101, 32, 102, 111, 114, 32, 105, 110, 32, 98, 114, 101, 97, 107, 32, 99, 111, 110, 116, 105, 110, 117, 101, 32, 110, 101, 120, 116, 32, 101, 120, 105, 116, 32, 114, 101, 116, 117, 114, 110, 32, 100, 101, 108, 101, 116, 101, 32, 112, 114, 105, 110, 116, 32, 112, 114, 105, 110, 116, 102]⟩] W fun e w' => e = .returned (.bool false) ∧ w' = W)) (CB : Hid (∀ W, Calls Try.prog 34 #[.string Tx, .string ⟨#[108, 101, 110, 103, 116, 104, 32, 115, 117, 98, 115, 116, 114, 32, 105, 110, 100, 101, 120, 32, 115, 112, 108, 105, 116, 32, 115, 117, 98, 32, 103, 115, 117, 98, 32, 109, 97, 116, 99, 104, 32, 116, 111, 108, 111, 119, 101, 114, 32, 116, 111, 117, 112, 112, 101, 114, 32, 105, 110, 116, 32, 115, 112, 114, 105, 110, 116, 102, 32, 114, 97, 110, 100, 32, 115, 114, 97, 110, 100]⟩] W fun e w' => e = .returned (.bool false) ∧ w' = W)) (CN : Hid (∀ W, Calls Try.prog 34 #[.string Tx, .string ⟨#[103, 101, 116, 108, 105, 110, 101, 32, 115, 121, 115, 116, 101, 109, 32, 99, 108, 111, 115, 101, 32, 102, 102, 108, 117, 115, 104, 32, 115, 121, 115, 116, 105, 109, 101, 32, 115, 116, 114, 102, 116, 105, 109, 101]⟩] W fun e w' => e = .returned (.bool true) ∧ w' = W)) : Calls Try.prog 19 #[.string s, .int .i64 (p : Int), v] w (RoPost p w (.tok 10 Tx.data.toList (M - p))) := by
  have L1 := Lib.hid fun c W => rlt_any c W
  have D1 := Lib.hid fun c W => rdg_any c W
  have w9 : (p : Int) ≤ (M : Int) := by omega
  have w7 : (M : Int) ≤ (s.size : Int) := by omega
  go_enter Try.func19, Try.ntmps19
  go_wp2_with fail
  refine (CD.out _).mono ?_
  rintro e w1 ⟨rfl, rfl⟩
  go_wp2_with fail
  refine (CL.out _).mono ?_
  rintro e w1 ⟨rfl, rfl⟩
  go_wp2_with fail
  go_loop [10] (fun i => ∃ k : Nat, p ≤ k ∧ k ≤ s.size ∧ i = .int .i64 k ∧ Hid (M = k + ((s.data.toList.drop k).takeWhile isNm).length)) (fun i => s.size - (intOf i).toNat)
  case atStart => exact ⟨p, Nat.le_refl _, by omega, rfl, HM⟩
  case round =>
    obtain ⟨k, hpk, hk, rfl, HK⟩ := hrel
    have end_ : (∀ h : k < s.size, isNm s[k] = false) → k = M := fun h => by have := HK.out; rw [tw_stop _ s k h] at this; omega
    by_cases hlt : k < s.size
    · cases hl : isLt s[k] with
      | true =>
        have HN : Hid (M = (k + 1) + ((s.data.toList.drop (k + 1)).takeWhile isNm).length) := Lib.hid (by have := HK.out; rw [tw_step _ s k hlt (by unfold isNm; rw [hl]; rfl)] at this; omega)
        clear HK end_
        go_wp2_with ((with_reducible refine (L1.out _ _).mono ?_); rw [hl]; rintro e w1 ⟨rfl, rfl⟩)
        go_round
        case rel => exact ⟨k + 1, by omega, by omega, by go_num, HN⟩
        case measure => simp [intOf]; omega
      | false =>
        cases hd : isDg s[k] with
        | true =>
          have HN : Hid (M = (k + 1) + ((s.data.toList.drop (k + 1)).takeWhile isNm).length) := Lib.hid (by have := HK.out; rw [tw_step _ s k hlt (by unfold isNm; rw [hl, hd]; rfl)] at this; omega)
          clear HK end_
          go_wp2_with (first | ((with_reducible refine (L1.out _ _).mono ?_); rw [hl]; rintro e w1 ⟨rfl, rfl⟩) | ((with_reducible refine (D1.out _ _).mono ?_); rw [hd]; rintro e w1 ⟨rfl, rfl⟩))
          go_round
          case rel => exact ⟨k + 1, by omega, by omega, by go_num, HN⟩
          case measure => simp [intOf]; omega
        | false =>
          have hkM := end_ (fun _ => by unfold isNm; rw [hl, hd]; rfl)
          clear HK end_
          subst hkM
          exact absurd hlt hlt2
    · have hkM := end_ (fun h => absurd h hlt)
      clear HK end_
      subst hkM
      have w5 : ¬ (k : Int) < (s.size : Int) := by omega
      go_wp2_with fail
      rw [hT.out]
      refine (CW.out _).mono ?_
      rintro e w1 ⟨rfl, rfl⟩
      go_wp2_with fail
      refine (CB.out _).mono ?_
      rintro e w1 ⟨rfl, rfl⟩
      go_wp2_with fail
      refine (CN.out _).mono ?_
      rintro e w1 ⟨rfl, rfl⟩
      go_wp2_with fail
      refine bodyPost_ret (v := .tuple #[.agg #[.int .i64 10, .string Tx, .int .i64 (p : Int)], .int .i64 (k : Int)]) ?_ rfl ?_
      · simp [results, Try.results19, go_sem]
      · exact ro_tok (k := 10) (by omega) (Below.alloc (Below.refl _ _) (Nat.le_refl _) _)
set_option maxRecDepth 100000 in
set_option maxHeartbeats 4000000 in
theorem rone_wn1O (s : ByteArray) (p : Nat) (v : Value) (w : World) (hs : s.size ≤ 10000) (hp : p < s.size) (M : Nat) (Tx : ByteArray) (_n10 : ((s[p].toNat : Int) == 10) = false) (CD : Hid (∀ W, Calls Try.prog 31 #[.int .u8 (s[p].toNat : Int)] W fun e w' => e = .returned (.bool false) ∧ w' = W)) (n46 : ((s[p].toNat : Int) == 46) = false) (CL : Hid (∀ W, Calls Try.prog 33 #[.int .u8 (s[p].toNat : Int)] W fun e w' => e = .returned (.bool true) ∧ w' = W)) (HM : Hid (M = p + ((s.data.toList.drop p).takeWhile isNm).length)) (hMs : M ≤ s.size) (hpM : p ≤ M) (hT : Hid (s.extract p M = Tx)) (hlt2 : ¬ M < s.size) (CW : Hid (∀ W, Calls Try.prog 34 #[.string Tx, .string ⟨#[66, 69, 71, 73, 78, 32, 69, 78, 68, 32, 102, 117, 110, 99, 116, 105, 111, 110, 32, 105, 102, 32, 101, 108, 115, 101, 32, 119, 104, 105, 108, 101, 32, 102, 111, 114, 32, 105, 110, 32, 98, 114, 101, 97, 107, 32, 99, 111, 110, 116, 105, 110, 117, 101, 32, 110, 101, 120, 116, 32, 101, 120, 105, 116, 32, 114, 101, 116, 117, 114, 110, 32, 100, 101, 108, 101, 116, 101, 32, 112, 114, 105, 110, 116, 32, 112, 114, 105, 110, 116, 102]⟩] W fun e w' => e = .returned (.bool false) ∧ w' = W)) (CB : Hid (∀ W, Calls Try.prog 34 #[.string Tx, .string ⟨#[108, 101, 110, 103, 116, 104, 32, 115, 117, 98, 115, 116, 114, 32, 105, 110, 100, 101, 120, 32, 115, 112, 108, 105, 116, 32, 115, 117, 98, 32, 103, 115, 117, 98, 32, 109, 97, 116, 99, 104, 32, 116, 111, 108, 111, 119, 101, 114, 32, 116, 111, 117, 112, 112, 101, 114, 32, 105, 110, 116, 32, 115, 112, 114, 105, 110, 116, 102, 32, 114, 97, 110, 100, 32, 115, 114, 97, 110, 100]⟩] W fun e w' => e = .returned (.bool false) ∧ w' = W)) (CN : Hid (∀ W, Calls Try.prog 34 #[.string Tx, .string ⟨#[103, 101, 116, 108, 105, 110, 101, 32, 115, 121, 115, 116, 101, 109, 32, 99, 108, 111, 115, 101, 32, 102, 102, 108, 117, 115, 104, 32, 115, 121, 115, 116, 105, 109, 101, 32, 115, 116, 114, 102, 116, 105, 109, 101]⟩] W fun e w' => e = .returned (.bool false) ∧ w' = W)) : Calls Try.prog 19 #[.string s, .int .i64 (p : Int), v] w (RoPost p w (.tok 5 Tx.data.toList (M - p))) := by
  have L1 := Lib.hid fun c W => rlt_any c W
  have D1 := Lib.hid fun c W => rdg_any c W
  have w9 : (p : Int) ≤ (M : Int) := by omega
  have w7 : (M : Int) ≤ (s.size : Int) := by omega
  go_enter Try.func19, Try.ntmps19
  go_wp2_with fail
  refine (CD.out _).mono ?_
  rintro e w1 ⟨rfl, rfl⟩
  go_wp2_with fail
  refine (CL.out _).mono ?_
  rintro e w1 ⟨rfl, rfl⟩
  go_wp2_with fail
  go_loop [10] (fun i => ∃ k : Nat, p ≤ k ∧ k ≤ s.size ∧ i = .int .i64 k ∧ Hid (M = k + ((s.data.toList.drop k).takeWhile isNm).length)) (fun i => s.size - (intOf i).toNat)
  case atStart => exact ⟨p, Nat.le_refl _, by omega, rfl, HM⟩
  case round =>
    obtain ⟨k, hpk, hk, rfl, HK⟩ := hrel
    have end_ : (∀ h : k < s.size, isNm s[k] = false) → k = M := fun h => by have := HK.out; rw [tw_stop _ s k h] at this; omega
    by_cases hlt : k < s.size
    · cases hl : isLt s[k] with
      | true =>
        have HN : Hid (M = (k + 1) + ((s.data.toList.drop (k + 1)).takeWhile isNm).length) := Lib.hid (by have := HK.out; rw [tw_step _ s k hlt (by unfold isNm; rw [hl]; rfl)] at this; omega)
        clear HK end_
        go_wp2_with ((with_reducible refine (L1.out _ _).mono ?_); rw [hl]; rintro e w1 ⟨rfl, rfl⟩)
        go_round
        case rel => exact ⟨k + 1, by omega, by omega, by go_num, HN⟩
        case measure => simp [intOf]; omega
      | false =>
        cases hd : isDg s[k] with
        | true =>
          have HN : Hid (M = (k + 1) + ((s.data.toList.drop (k + 1)).takeWhile isNm).length) := Lib.hid (by have := HK.out; rw [tw_step _ s k hlt (by unfold isNm; rw [hl, hd]; rfl)] at this; omega)
          clear HK end_
          go_wp2_with (first | ((with_reducible refine (L1.out _ _).mono ?_); rw [hl]; rintro e w1 ⟨rfl, rfl⟩) | ((with_reducible refine (D1.out _ _).mono ?_); rw [hd]; rintro e w1 ⟨rfl, rfl⟩))
          go_round
          case rel => exact ⟨k + 1, by omega, by omega, by go_num, HN⟩
          case measure => simp [intOf]; omega
        | false =>
          have hkM := end_ (fun _ => by unfold isNm; rw [hl, hd]; rfl)
          clear HK end_
          subst hkM
          exact absurd hlt hlt2
    · have hkM := end_ (fun h => absurd h hlt)
      clear HK end_
      subst hkM
      have w5 : ¬ (k : Int) < (s.size : Int) := by omega
      go_wp2_with fail
      rw [hT.out]
      refine (CW.out _).mono ?_
      rintro e w1 ⟨rfl, rfl⟩
      go_wp2_with fail
      refine (CB.out _).mono ?_
      rintro e w1 ⟨rfl, rfl⟩
      go_wp2_with fail
      refine (CN.out _).mono ?_
      rintro e w1 ⟨rfl, rfl⟩
      go_wp2_with fail
      refine bodyPost_ret (v := .tuple #[.agg #[.int .i64 5, .string Tx, .int .i64 (p : Int)], .int .i64 (k : Int)]) ?_ rfl ?_
      · simp [results, Try.results19, go_sem]
      · exact ro_tok (k := 5) (by omega) (Below.alloc (Below.refl _ _) (Nat.le_refl _) _)
set_option maxRecDepth 100000 in
set_option maxHeartbeats 4000000 in
theorem rone_wn2W (s : ByteArray) (p : Nat) (v : Value) (w : World) (hs : s.size ≤ 10000) (hp : p < s.size) (M : Nat) (Tx : ByteArray) (_n10 : ((s[p].toNat : Int) == 10) = false) (CD : Hid (∀ W, Calls Try.prog 31 #[.int .u8 (s[p].toNat : Int)] W fun e w' => e = .returned (.bool false) ∧ w' = W)) (n46 : ((s[p].toNat : Int) == 46) = false) (CL : Hid (∀ W, Calls Try.prog 33 #[.int .u8 (s[p].toNat : Int)] W fun e w' => e = .returned (.bool true) ∧ w' = W)) (HM : Hid (M = p + ((s.data.toList.drop p).takeWhile isNm).length)) (hMs : M ≤ s.size) (hpM : p ≤ M) (hT : Hid (s.extract p M = Tx)) (hlt2 : M < s.size) (h40 : ((s[M].toNat : Int) == 40) = false) (CW : Hid (∀ W, Calls Try.prog 34 #[.string Tx, .string ⟨#[66, 69, 71, 73, 78, 32, 69, 78, 68, 32, 102, 117, 110, 99, 116, 105, 111, 110, 32, 105, 102, 32, 101, 108, 115, 101, 32, 119, 104, 105, 108, 101, 32, 102, 111, 114, 32, 105, 110, 32, 98, 114, 101, 97, 107, 32, 99, 111, 110, 116, 105, 110, 117, 101, 32, 110, 101, 120, 116, 32, 101, 120, 105, 116, 32, 114, 101, 116, 117, 114, 110, 32, 100, 101, 108, 101, 116, 101, 32, 112, 114, 105, 110, 116, 32, 112, 114, 105, 110, 116, 102]⟩] W fun e w' => e = .returned (.bool true) ∧ w' = W)) (CB : Hid (∀ W, Calls Try.prog 34 #[.string Tx, .string ⟨#[108, 101, 110, 103, 116, 104, 32, 115, 117, 98, 115, 116, 114, 32, 105, 110, 100, 101, 120, 32, 115, 112, 108, 105, 116, 32, 115, 117, 98, 32, 103, 115, 117, 98, 32, 109, 97, 116, 99, 104, 32, 116, 111, 108, 111, 119, 101, 114, 32, 116, 111, 117, 112, 112, 101, 114, 32, 105, 110, 116, 32, 115, 112, 114, 105, 110, 116, 102, 32, 114, 97, 110, 100, 32, 115, 114, 97, 110, 100]⟩] W fun e w' => e = .returned (.bool false) ∧ w' = W)) (CN : Hid (∀ W, Calls Try.prog 34 #[.string Tx, .string ⟨#[103, 101, 116, 108, 105, 110, 101, 32, 115, 121, 115, 116, 101, 109, 32, 99, 108, 111, 115, 101, 32, 102, 102, 108, 117, 115, 104, 32, 115, 121, 115, 116, 105, 109, 101, 32, 115, 116, 114, 102, 116, 105, 109, 101]⟩] W fun e w' => e = .returned (.bool false) ∧ w' = W)) : Calls Try.prog 19 #[.string s, .int .i64 (p : Int), v] w (RoPost p w (.tok 7 Tx.data.toList (M - p))) := by
  have L1 := Lib.hid fun c W => rlt_any c W
  have D1 := Lib.hid fun c W => rdg_any c W
  have w9 : (p : Int) ≤ (M : Int) := by omega
  have w7 : (M : Int) ≤ (s.size : Int) := by omega
  go_enter Try.func19, Try.ntmps19
  go_wp2_with fail
  refine (CD.out _).mono ?_
  rintro e w1 ⟨rfl, rfl⟩
  go_wp2_with fail
  refine (CL.out _).mono ?_
  rintro e w1 ⟨rfl, rfl⟩
  go_wp2_with fail
  go_loop [10] (fun i => ∃ k : Nat, p ≤ k ∧ k ≤ s.size ∧ i = .int .i64 k ∧ Hid (M = k + ((s.data.toList.drop k).takeWhile isNm).length)) (fun i => s.size - (intOf i).toNat)
  case atStart => exact ⟨p, Nat.le_refl _, by omega, rfl, HM⟩
  case round =>
    obtain ⟨k, hpk, hk, rfl, HK⟩ := hrel
    have end_ : (∀ h : k < s.size, isNm s[k] = false) → k = M := fun h => by have := HK.out; rw [tw_stop _ s k h] at this; omega
    by_cases hlt : k < s.size
    · cases hl : isLt s[k] with
      | true =>
        have HN : Hid (M = (k + 1) + ((s.data.toList.drop (k + 1)).takeWhile isNm).length) := Lib.hid (by have := HK.out; rw [tw_step _ s k hlt (by unfold isNm; rw [hl]; rfl)] at this; omega)
        clear HK end_
        go_wp2_with ((with_reducible refine (L1.out _ _).mono ?_); rw [hl]; rintro e w1 ⟨rfl, rfl⟩)
        go_round
        case rel => exact ⟨k + 1, by omega, by omega, by go_num, HN⟩
        case measure => simp [intOf]; omega
      | false =>
        cases hd : isDg s[k] with
        | true =>
          have HN : Hid (M = (k + 1) + ((s.data.toList.drop (k + 1)).takeWhile isNm).length) := Lib.hid (by have := HK.out; rw [tw_step _ s k hlt (by unfold isNm; rw [hl, hd]; rfl)] at this; omega)
          clear HK end_
          go_wp2_with (first | ((with_reducible refine (L1.out _ _).mono ?_); rw [hl]; rintro e w1 ⟨rfl, rfl⟩) | ((with_reducible refine (D1.out _ _).mono ?_); rw [hd]; rintro e w1 ⟨rfl, rfl⟩))
          go_round
          case rel => exact ⟨k + 1, by omega, by omega, by go_num, HN⟩
          case measure => simp [intOf]; omega
        | false =>
          have hkM := end_ (fun _ => by unfold isNm; rw [hl, hd]; rfl)
          clear HK end_
          subst hkM
          have w5 : (k : Int) < (s.size : Int) := by omega
          go_wp2_with fail
          refine (L1.out s[k] _).mono ?_
          rw [hl]
          rintro e w1 ⟨rfl, rfl⟩
          go_wp2_with fail
          refine (D1.out s[k] _).mono ?_
          rw [hd]
          rintro e w1 ⟨rfl, rfl⟩
          go_wp2_with fail
          rw [hT.out]
          refine (CW.out _).mono ?_
          rintro e w1 ⟨rfl, rfl⟩
          go_wp2_with fail
          refine (CB.out _).mono ?_
          rintro e w1 ⟨rfl, rfl⟩
          go_wp2_with fail
          refine (CN.out _).mono ?_
          rintro e w1 ⟨rfl, rfl⟩
          go_wp2_with fail
          refine bodyPost_ret (v := .tuple #[.agg #[.int .i64 7, .string Tx, .int .i64 (p : Int)], .int .i64 (k : Int)]) ?_ rfl ?_
          · simp [results, Try.results19, go_sem]
          · exact ro_tok (k := 7) (by omega) (Below.alloc (Below.refl _ _) (Nat.le_refl _) _)
    · have hkM := end_ (fun h => absurd h hlt)
      clear HK end_
      subst hkM
      exact absurd hlt2 hlt
set_option maxRecDepth 100000 in
set_option maxHeartbeats 4000000 in
theorem rone_wn2B (s : ByteArray) (p : Nat) (v : Value) (w : World) (hs : s.size ≤ 10000) (hp : p < s.size) (M : Nat) (Tx : ByteArray) (_n10 : ((s[p].toNat : Int) == 10) = false) (CD : Hid (∀ W, Calls Try.prog 31 #[.int .u8 (s[p].toNat : Int)] W fun e w' => e = .returned (.bool false) ∧ w' = W)) (n46 : ((s[p].toNat : Int) == 46) = false) (CL : Hid (∀ W, Calls Try.prog 33 #[.int .u8 (s[p].toNat : Int)] W fun e w' => e = .returned (.bool true) ∧ w' = W)) (HM : Hid (M = p + ((s.data.toList.drop p).takeWhile isNm).length)) (hMs : M ≤ s.size) (hpM : p ≤ M) (hT : Hid (s.extract p M = Tx)) (hlt2 : M < s.size) (h40 : ((s[M].toNat : Int) == 40) = false) (CW : Hid (∀ W, Calls Try.prog 34 #[.string Tx, .string ⟨#[66, 69, 71, 73, 78, 32, 69, 78, 68, 32, 102, 117, 110, 99, 116, 105, 111, 110, 32, 105, 102, 32, 101, 108, 115, 101, 32, 119, 104, 105, 108, 101, 32, 102, 111, 114, 32, 105, 110, 32, 98, 114, 101, 97, 107, 32, 99, 111, 110, 116, 105, 110, 117, 101, 32, 110, 101, 120, 116, 32, 101, 120, 105, 116, 32, 114, 101, 116, 117, 114, 110, 32, 100, 101, 108, 101, 116, 101, 32, 112, 114, 105, 110, 116, 32, 112, 114, 105, 110, 116, 102]⟩] W fun e w' => e = .returned (.bool false) ∧ w' = W)) (CB : Hid (∀ W, Calls Try.prog 34 #[.string Tx, .string ⟨#[108, 101, 110, 103, 116, 104, 32, 115, 117, 98, 115, 116, 114, 32, 105, 110, 100, 101, 120, 32, 115, 112, 108, 105, 116, 32, 115, 117, 98, 32, 103, 115, 117, 98, 32, 109, 97, 116, 99, 104, 32, 116, 111, 108, 111, 119, 101, 114, 32, 116, 111, 117, 112, 112, 101, 114, 32, 105, 110, 116, 32, 115, 112, 114, 105, 110, 116, 102, 32, 114, 97, 110, 100, 32, 115, 114, 97, 110, 100]⟩] W fun e w' => e = .returned (.bool true) ∧ w' = W)) (CN : Hid (∀ W, Calls Try.prog 34 #[.string Tx, .string ⟨#[103, 101, 116, 108, 105, 110, 101, 32, 115, 121, 115, 116, 101, 109, 32, 99, 108, 111, 115, 101, 32, 102, 102, 108, 117, 115, 104, 32, 115, 121, 115, 116, 105, 109, 101, 32, 115, 116, 114, 102, 116, 105, 109, 101]⟩] W fun e w' => e = .returned (.bool false) ∧ w' = W)) : Calls Try.prog 19 #[.string s, .int .i64 (p : Int), v] w (RoPost p w (.tok 9 Tx.data.toList (M - p))) := by
  have L1 := Lib.hid fun c W => rlt_any c W
  have D1 := Lib.hid fun c W => rdg_any c W
  have w9 : (p : Int) ≤ (M : Int) := by omega
  have w7 : (M : Int) ≤ (s.size : Int) := by omega
  go_enter Try.func19, Try.ntmps19
  go_wp2_with fail
  refine (CD.out _).mono ?_
  rintro e w1 ⟨rfl, rfl⟩
  go_wp2_with fail
  refine (CL.out _).mono ?_
  rintro e w1 ⟨rfl, rfl⟩
  go_wp2_with fail
  go_loop [10] (fun i => ∃ k : Nat, p ≤ k ∧ k ≤ s.size ∧ i = .int .i64 k ∧ Hid (M = k + ((s.data.toList.drop k).takeWhile isNm).length)) (fun i => s.size - (intOf i).toNat)
  case atStart => exact ⟨p, Nat.le_refl _, by omega, rfl, HM⟩
  case round =>
    obtain ⟨k, hpk, hk, rfl, HK⟩ := hrel
    have end_ : (∀ h : k < s.size, isNm s[k] = false) → k = M := fun h => by have := HK.out; rw [tw_stop _ s k h] at this; omega
    by_cases hlt : k < s.size
    · cases hl : isLt s[k] with
      | true =>
        have HN : Hid (M = (k + 1) + ((s.data.toList.drop (k + 1)).takeWhile isNm).length) := Lib.hid (by have := HK.out; rw [tw_step _ s k hlt (by unfold isNm; rw [hl]; rfl)] at this; omega)
        clear HK end_
        go_wp2_with ((with_reducible refine (L1.out _ _).mono ?_); rw [hl]; rintro e w1 ⟨rfl, rfl⟩)
        go_round
        case rel => exact ⟨k + 1, by omega, by omega, by go_num, HN⟩
        case measure => simp [intOf]; omega
      | false =>
        cases hd : isDg s[k] with
        | true =>
          have HN : Hid (M = (k + 1) + ((s.data.toList.drop (k + 1)).takeWhile isNm).length) := Lib.hid (by have := HK.out; rw [tw_step _ s k hlt (by unfold isNm; rw [hl, hd]; rfl)] at this; omega)
          clear HK end_
          go_wp2_with (first | ((with_reducible refine (L1.out _ _).mono ?_); rw [hl]; rintro e w1 ⟨rfl, rfl⟩) | ((with_reducible refine (D1.out _ _).mono ?_); rw [hd]; rintro e w1 ⟨rfl, rfl⟩))
          go_round
          case rel => exact ⟨k + 1, by omega, by omega, by go_num, HN⟩
          case measure => simp [intOf]; omega
        | false =>
          have hkM := end_ (fun _ => by unfold isNm; rw [hl, hd]; rfl)
          clear HK end_
          subst hkM
          have w5 : (k : Int) < (s.size : Int) := by omega
          go_wp2_with fail
          refine (L1.out s[k] _).mono ?_
          rw [hl]
          rintro e w1 ⟨rfl, rfl⟩
          go_wp2_with fail
          refine (D1.out s[k] _).mono ?_
          rw [hd]
          rintro e w1 ⟨rfl, rfl⟩
          go_wp2_with fail
          rw [hT.out]
          refine (CW.out _).mono ?_
          rintro e w1 ⟨rfl, rfl⟩
          go_wp2_with fail
          refine (CB.out _).mono ?_
          rintro e w1 ⟨rfl, rfl⟩
          go_wp2_with fail
          refine (CN.out _).mono ?_
          rintro e w1 ⟨rfl, rfl⟩
          go_wp2_with fail
          refine bodyPost_ret (v := .tuple #[.agg #[.int .i64 9, .string Tx, .int .i64 (p : Int)], .int .i64 (k : Int)]) ?_ rfl ?_
          · simp [results, Try.results19, go_sem]
          · exact ro_tok (k := 9) (by omega) (Below.alloc (Below.refl _ _) (Nat.le_refl _) _)
    · have hkM := end_ (fun h => absurd h hlt)
      clear HK end_
      subst hkM
      exact absurd hlt2 hlt
set_option maxRecDepth 100000 in
set_option maxHeartbeats 4000000 in
theorem rone_wn2N (s : ByteArray) (p : Nat) (v : Value) (w : World) (hs : s.size ≤ 10000) (hp : p < s.size) (M : Nat) (Tx : ByteArray) (_n10 : ((s[p].toNat : Int) == 10) = false) (CD : Hid (∀ W, Calls Try.prog 31 #[.int .u8 (s[p].toNat : Int)] W fun e w' => e = .returned (.bool false) ∧ w' = W)) (n46 : ((s[p].toNat : Int) == 46) = false) (CL : Hid (∀ W, Calls Try.prog 33 #[.int .u8 (s[p].toNat : Int)] W fun e w' => e = .returned (.bool true) ∧ w' = W)) (HM : Hid (M = p + ((s.data.toList.drop p).takeWhile isNm).length)) (hMs : M ≤ s.size) (hpM : p ≤ M) (hT : Hid (s.extract p M = Tx)) (hlt2 : M < s.size) (h40 : ((s[M].toNat : Int) == 40) = false) (CW : Hid (∀ W, Calls Try.prog 34 #[.string Tx, .string ⟨#[66, 69, 71, 73, 78, 32, 69, 78, 68, 32, 102, 117, 110, 99, 116, 105, 111, 110, 32, 105, 102, 32, 101, 108, 115, 101, 32, 119, 104, 105, 108, 101, 32, 102, 111, 114, 32, 105, 110, 32, 98, 114, 101, 97, 107, 32, 99, 111, 110, 116, 105, 110, 117, 101, 32, 110, 101, 120, 116, 32, 101, 120, 105, 116, 32, 114, 101, 116, 117, 114, 110, 32, 100, 101, 108, 101, 116, 101, 32, 112, 114, 105, 110, 116, 32, 112, 114, 105, 110, 116, 102]⟩] W fun e w' => e = .returned (.bool false) ∧ w' = W)) (CB : Hid (∀ W, Calls Try.prog 34 #[.string Tx, .string ⟨#[108, 101, 110, 103, 116, 104, 32, 115, 117, 98, 115, 116, 114, 32, 105, 110, 100, 101, 120, 32, 115, 112, 108, 105, 116, 32, 115, 117, 98, 32, 103, 115, 117, 98, 32, 109, 97, 116, 99, 104, 32, 116, 111, 108, 111, 119, 101, 114, 32, 116, 111, 117, 112, 112, 101, 114, 32, 105, 110, 116, 32, 115, 112, 114, 105, 110, 116, 102, 32, 114, 97, 110, 100, 32, 115, 114, 97, 110, 100]⟩] W fun e w' => e = .returned (.bool false) ∧ w' = W)) (CN : Hid (∀ W, Calls Try.prog 34 #[.string Tx, .string ⟨#[103, 101, 116, 108, 105, 110, 101, 32, 115, 121, 115, 116, 101, 109, 32, 99, 108, 111, 115, 101, 32, 102, 102, 108, 117, 115, 104, 32, 115, 121, 115, 116, 105, 109, 101, 32, 115, 116, 114, 102, 116, 105, 109, 101]⟩] W fun e w' => e = .returned (.bool true) ∧ w' = W)) : Calls Try.prog 19 #[.string s, .int .i64 (p : Int), v] w (RoPost p w (.tok 10 Tx.data.toList (M - p))) := by
  have L1 := Lib.hid fun c W => rlt_any c W
  have D1 := Lib.hid fun c W => rdg_any c W
  have w9 : (p : Int) ≤ (M : Int) := by omega
  have w7 : (M : Int) ≤ (s.size : Int) := by omega
  go_enter Try.func19, Try.ntmps19
  go_wp2_with fail
  refine (CD.out _).mono ?_
  rintro e w1 ⟨rfl, rfl⟩
  go_wp2_with fail
  refine (CL.out _).mono ?_
  rintro e w1 ⟨rfl, rfl⟩
  go_wp2_with fail
  go_loop [10] (fun i => ∃ k : Nat, p ≤ k ∧ k ≤ s.size ∧ i = .int .i64 k ∧ Hid (M = k + ((s.data.toList.drop k).takeWhile isNm).length)) (fun i => s.size - (intOf i).toNat)
  case atStart => exact ⟨p, Nat.le_refl _, by omega, rfl, HM⟩
  case round =>
    obtain ⟨k, hpk, hk, rfl, HK⟩ := hrel
    have end_ : (∀ h : k < s.size, isNm s[k] = false) → k = M := fun h => by have := HK.out; rw [tw_stop _ s k h] at this; omega
    by_cases hlt : k < s.size
    · cases hl : isLt s[k] with
      | true =>
        have HN : Hid (M = (k + 1) + ((s.data.toList.drop (k + 1)).takeWhile isNm).length) := Lib.hid (by have := HK.out; rw [tw_step _ s k hlt (by unfold isNm; rw [hl]; rfl)] at this; omega)
        clear HK end_
        go_wp2_with ((with_reducible refine (L1.out _ _).mono ?_); rw [hl]; rintro e w1 ⟨rfl, rfl⟩)
        go_round
        case rel => exact ⟨k + 1, by omega, by omega, by go_num, HN⟩
        case measure => simp [intOf]; omega
      | false =>
        cases hd : isDg s[k] with
        | true =>
          have HN : Hid (M = (k + 1) + ((s.data.toList.drop (k + 1)).takeWhile isNm).length) := Lib.hid (by have := HK.out; rw [tw_step _ s k hlt (by unfold isNm; rw [hl, hd]; rfl)] at this; omega)
          clear HK end_
          go_wp2_with (first | ((with_reducible refine (L1.out _ _).mono ?_); rw [hl]; rintro e w1 ⟨rfl, rfl⟩) | ((with_reducible refine (D1.out _ _).mono ?_); rw [hd]; rintro e w1 ⟨rfl, rfl⟩))
          go_round
          case rel => exact ⟨k + 1, by omega, by omega, by go_num, HN⟩
          case measure => simp [intOf]; omega
        | false =>
          have hkM := end_ (fun _ => by unfold isNm; rw [hl, hd]; rfl)
          clear HK end_
          subst hkM
          have w5 : (k : Int) < (s.size : Int) := by omega
          go_wp2_with fail
          refine (L1.out s[k] _).mono ?_
          rw [hl]
          rintro e w1 ⟨rfl, rfl⟩
          go_wp2_with fail
          refine (D1.out s[k] _).mono ?_
          rw [hd]
          rintro e w1 ⟨rfl, rfl⟩
          go_wp2_with fail
          rw [hT.out]
          refine (CW.out _).mono ?_
          rintro e w1 ⟨rfl, rfl⟩
          go_wp2_with fail
          refine (CB.out _).mono ?_
          rintro e w1 ⟨rfl, rfl⟩
          go_wp2_with fail
          refine (CN.out _).mono ?_
          rintro e w1 ⟨rfl, rfl⟩
          go_wp2_with fail
          refine bodyPost_ret (v := .tuple #[.agg #[.int .i64 10, .string Tx, .int .i64 (p : Int)], .int .i64 (k : Int)]) ?_ rfl ?_
          · simp [results, Try.results19, go_sem]
          · exact ro_tok (k := 10) (by omega) (Below.alloc (Below.refl _ _) (Nat.le_refl _) _)
    · have hkM := end_ (fun h => absurd h hlt)
      clear HK end_
      subst hkM
      exact absurd hlt2 hlt
set_option maxRecDepth 100000 in
set_option maxHeartbeats 4000000 in
theorem rone_wn2O (s : ByteArray) (p : Nat) (v : Value) (w : World) (hs : s.size ≤ 10000) (hp : p < s.size) (M : Nat) (Tx : ByteArray) (_n10 : ((s[p].toNat : Int) == 10) = false) (CD : Hid (∀ W, Calls Try.prog 31 #[.int .u8 (s[p].toNat : Int)] W fun e w' => e = .returned (.bool false) ∧ w' = W)) (n46 : ((s[p].toNat : Int) == 46) = false) (CL : Hid (∀ W, Calls Try.prog 33 #[.int .u8 (s[p].toNat : Int)] W fun e w' => e = .returned (.bool true) ∧ w' = W)) (HM : Hid (M = p + ((s.data.toList.drop p).takeWhile isNm).length)) (hMs : M ≤ s.size) (hpM : p ≤ M) (hT : Hid (s.extract p M = Tx)) (hlt2 : M < s.size) (h40 : ((s[M].toNat : Int) == 40) = false) (CW : Hid (∀ W, Calls Try.prog 34 #[.string Tx, .string ⟨#[66, 69, 71, 73, 78, 32, 69, 78, 68, 32, 102, 117, 110, 99, 116, 105, 111, 110, 32, 105, 102, 32, 101, 108, 115, 101, 32, 119, 104, 105, 108, 101, 32, 102, 111, 114, 32, 105, 110, 32, 98, 114, 101, 97, 107, 32, 99, 111, 110, 116, 105, 110, 117, 101, 32, 110, 101, 120, 116, 32, 101, 120, 105, 116, 32, 114, 101, 116, 117, 114, 110, 32, 100, 101, 108, 101, 116, 101, 32, 112, 114, 105, 110, 116, 32, 112, 114, 105, 110, 116, 102]⟩] W fun e w' => e = .returned (.bool false) ∧ w' = W)) (CB : Hid (∀ W, Calls Try.prog 34 #[.string Tx, .string ⟨#[108, 101, 110, 103, 116, 104, 32, 115, 117, 98, 115, 116, 114, 32, 105, 110, 100, 101, 120, 32, 115, 112, 108, 105, 116, 32, 115, 117, 98, 32, 103, 115, 117, 98, 32, 109, 97, 116, 99, 104, 32, 116, 111, 108, 111, 119, 101, 114, 32, 116, 111, 117, 112, 112, 101, 114, 32, 105, 110, 116, 32, 115, 112, 114, 105, 110, 116, 102, 32, 114, 97, 110, 100, 32, 115, 114, 97, 110, 100]⟩] W fun e w' => e = .returned (.bool false) ∧ w' = W)) (CN : Hid (∀ W, Calls Try.prog 34 #[.string Tx, .string ⟨#[103, 101, 116, 108, 105, 110, 101, 32, 115, 121, 115, 116, 101, 109, 32, 99, 108, 111, 115, 101, 32, 102, 102, 108, 117, 115, 104, 32, 115, 121, 115, 116, 105, 109, 101, 32, 115, 116, 114, 102, 116, 105, 109, 101]⟩] W fun e w' => e = .returned (.bool false) ∧ w' = W)) : Calls Try.prog 19 #[.string s, .int .i64 (p : Int), v] w (RoPost p w (.tok 5 Tx.data.toList (M - p))) := by
  have L1 := Lib.hid fun c W => rlt_any c W
  have D1 := Lib.hid fun c W => rdg_any c W
  have w9 : (p : Int) ≤ (M : Int) := by omega
  have w7 : (M : Int) ≤ (s.size : Int) := by omega
  go_enter Try.func19, Try.ntmps19
  go_wp2_with fail
  refine (CD.out _).mono ?_
  rintro e w1 ⟨rfl, rfl⟩
  go_wp2_with fail
  refine (CL.out _).mono ?_
  rintro e w1 ⟨rfl, rfl⟩
  go_wp2_with fail
  go_loop [10] (fun i => ∃ k : Nat, p ≤ k ∧ k ≤ s.size ∧ i = .int .i64 k ∧ Hid (M = k + ((s.data.toList.drop k).takeWhile isNm).length)) (fun i => s.size - (intOf i).toNat)
  case atStart => exact ⟨p, Nat.le_refl _, by omega, rfl, HM⟩
  case round =>
    obtain ⟨k, hpk, hk, rfl, HK⟩ := hrel
    have end_ : (∀ h : k < s.size, isNm s[k] = false) → k = M := fun h => by have := HK.out; rw [tw_stop _ s k h] at this; omega
    by_cases hlt : k < s.size
    · cases hl : isLt s[k] with
      | true =>
        have HN : Hid (M = (k + 1) + ((s.data.toList.drop (k + 1)).takeWhile isNm).length) := Lib.hid (by have := HK.out; rw [tw_step _ s k hlt (by unfold isNm; rw [hl]; rfl)] at this; omega)
        clear HK end_
        go_wp2_with ((with_reducible refine (L1.out _ _).mono ?_); rw [hl]; rintro e w1 ⟨rfl, rfl⟩)
        go_round
        case rel => exact ⟨k + 1, by omega, by omega, by go_num, HN⟩
        case measure => simp [intOf]; omega
      | false =>
        cases hd : isDg s[k] with
        | true =>
          have HN : Hid (M = (k + 1) + ((s.data.toList.drop (k + 1)).takeWhile isNm).length) := Lib.hid (by have := HK.out; rw [tw_step _ s k hlt (by unfold isNm; rw [hl, hd]; rfl)] at this; omega)
          clear HK end_
          go_wp2_with (first | ((with_reducible refine (L1.out _ _).mono ?_); rw [hl]; rintro e w1 ⟨rfl, rfl⟩) | ((with_reducible refine (D1.out _ _).mono ?_); rw [hd]; rintro e w1 ⟨rfl, rfl⟩))
          go_round
          case rel => exact ⟨k + 1, by omega, by omega, by go_num, HN⟩
          case measure => simp [intOf]; omega
        | false =>
          have hkM := end_ (fun _ => by unfold isNm; rw [hl, hd]; rfl)
          clear HK end_
          subst hkM
          have w5 : (k : Int) < (s.size : Int) := by omega
          go_wp2_with fail
          refine (L1.out s[k] _).mono ?_
          rw [hl]
          rintro e w1 ⟨rfl, rfl⟩
          go_wp2_with fail
          refine (D1.out s[k] _).mono ?_
          rw [hd]
          rintro e w1 ⟨rfl, rfl⟩
          go_wp2_with fail
          rw [hT.out]
          refine (CW.out _).mono ?_
          rintro e w1 ⟨rfl, rfl⟩
          go_wp2_with fail
          refine (CB.out _).mono ?_
          rintro e w1 ⟨rfl, rfl⟩
          go_wp2_with fail
          refine (CN.out _).mono ?_
          rintro e w1 ⟨rfl, rfl⟩
          go_wp2_with fail
          refine bodyPost_ret (v := .tuple #[.agg #[.int .i64 5, .string Tx, .int .i64 (p : Int)], .int .i64 (k : Int)]) ?_ rfl ?_
          · simp [results, Try.results19, go_sem]
          · exact ro_tok (k := 5) (by omega) (Below.alloc (Below.refl _ _) (Nat.le_refl _) _)
    · have hkM := end_ (fun h => absurd h hlt)
      clear HK end_
      subst hkM
      exact absurd hlt2 hlt
end Go.Proofs.Ytfmjajmdkndknaa
