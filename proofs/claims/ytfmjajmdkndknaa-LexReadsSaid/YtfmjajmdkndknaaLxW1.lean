/-
  CONTRACTS of layer 11's small functions: how many bytes of a kind a text begins with. Each reads alone. Condition: texts of at most 100000 bytes.
-/
import Derived.Test.YtfmjajmdkndknaaShelf
import Derived.Test.YtfmjajmdkndknaaLxM
import Derived.Test.YtfmjajmdkndknaaRows
import Derived.WalkKit
import Derived.WalkSpells
import Derived.WalkLawsBesides
import Derived.IntWalk
import Derived.WalkMore
import Derived.ScopeJumps
import Derived.Lib.Hide
import Derived.Below
namespace Go.Proofs.Ytfmjajmdkndknaa
open Go.RowKit

theorem isdg_any (c : UInt8) (w : World) : Calls Try.prog 40 #[.int .u8 (c.toNat : Int)] w fun e w' => e = .returned (.bool (isDg c)) ∧ w' = w := by
  unfold isDg
  by_cases h1 : 48 ≤ c.toNat
  · by_cases h2 : c.toNat ≤ 57
    · have e1 : (48 : Int) ≤ (c.toNat : Int) := by omega
      have e2 : (c.toNat : Int) ≤ 57 := by omega
      go_enter Try.func40, Try.ntmps40
      go_wp2
      go_ret
      first | (simp; done) | (simp; omega)
    · have e1 : (48 : Int) ≤ (c.toNat : Int) := by omega
      have e2 : ¬ (c.toNat : Int) ≤ 57 := by omega
      go_enter Try.func40, Try.ntmps40
      go_wp2
      go_ret
      first | (simp; done) | (simp; omega)
  · have e1 : ¬ (48 : Int) ≤ (c.toNat : Int) := by omega
    go_enter Try.func40, Try.ntmps40
    go_wp2
    go_ret
    first | (simp; done) | (simp; omega)
theorem islt_any (c : UInt8) (w : World) : Calls Try.prog 26 #[.int .u8 (c.toNat : Int)] w fun e w' => e = .returned (.bool (isLt c)) ∧ w' = w := by
  have hw : ∀ x : Bool, isLt c = x → Hid (Calls Try.prog 26 #[.int .u8 (c.toNat : Int)] w fun e w' => e = .returned (.bool x) ∧ w' = w) → Calls Try.prog 26 #[.int .u8 (c.toNat : Int)] w fun e w' => e = .returned (.bool (isLt c)) ∧ w' = w := fun x h k => by rw [h]; exact k.out
  rcases (show (97 ≤ c.toNat ∧ c.toNat ≤ 122) ∨ (¬ 97 ≤ c.toNat ∧ 65 ≤ c.toNat ∧ c.toNat ≤ 90) ∨ (¬ 97 ≤ c.toNat ∧ 65 ≤ c.toNat ∧ ¬ c.toNat ≤ 90 ∧ c.toNat = 95) ∨ (¬ 97 ≤ c.toNat ∧ 65 ≤ c.toNat ∧ ¬ c.toNat ≤ 90 ∧ ¬ c.toNat = 95) ∨ (¬ 97 ≤ c.toNat ∧ ¬ 65 ≤ c.toNat) ∨ (97 ≤ c.toNat ∧ ¬ c.toNat ≤ 122) from by omega) with ⟨h1, h2⟩ | ⟨h1, h2, h3⟩ | ⟨h1, h2, h3, h4⟩ | ⟨h1, h2, h3, h4⟩ | ⟨h1, h2⟩ | ⟨h1, h2⟩
  · refine hw true (by simp [isLt]; omega) (Lib.hid ?_)
    have e1 : (97 : Int) ≤ (c.toNat : Int) := by omega
    have e2 : (c.toNat : Int) ≤ 122 := by omega
    go_enter Try.func26, Try.ntmps26
    go_wp2
    go_ret
    first | (simp; done) | (simp; omega)
  · refine hw true (by simp [isLt]; omega) (Lib.hid ?_)
    have e1 : ¬ (97 : Int) ≤ (c.toNat : Int) := by omega
    have e2 : (65 : Int) ≤ (c.toNat : Int) := by omega
    have e3 : (c.toNat : Int) ≤ 90 := by omega
    go_enter Try.func26, Try.ntmps26
    go_wp2
    go_ret
    first | (simp; done) | (simp; omega)
  · refine hw true (by simp [isLt]; omega) (Lib.hid ?_)
    have e4 : (c.toNat : Int) = 95 := by omega
    go_enter Try.func26, Try.ntmps26
    rw [e4]
    go_wp2
    go_ret
    first | (simp; done) | (simp; omega)
  · refine hw false (by simp [isLt]; omega) (Lib.hid ?_)
    have e1 : ¬ (97 : Int) ≤ (c.toNat : Int) := by omega
    have e2 : (65 : Int) ≤ (c.toNat : Int) := by omega
    have e3 : ¬ (c.toNat : Int) ≤ 90 := by omega
    have e4 : ¬ (c.toNat : Int) = 95 := by omega
    go_enter Try.func26, Try.ntmps26
    go_wp2
    go_ret
    first | (simp; done) | (simp; omega)
  · refine hw false (by simp [isLt]; omega) (Lib.hid ?_)
    have e1 : ¬ (97 : Int) ≤ (c.toNat : Int) := by omega
    have e2 : ¬ (65 : Int) ≤ (c.toNat : Int) := by omega
    have e4 : ¬ (c.toNat : Int) = 95 := by omega
    go_enter Try.func26, Try.ntmps26
    go_wp2
    go_ret
    first | (simp; done) | (simp; omega)
  · refine hw false (by simp [isLt]; omega) (Lib.hid ?_)
    have e1 : (97 : Int) ≤ (c.toNat : Int) := by omega
    have e2 : ¬ (c.toNat : Int) ≤ 122 := by omega
    have e3 : (65 : Int) ≤ (c.toNat : Int) := by omega
    have e5 : ¬ (c.toNat : Int) ≤ 90 := by omega
    have e4 : ¬ (c.toNat : Int) = 95 := by omega
    go_enter Try.func26, Try.ntmps26
    go_wp2
    go_ret
    first | (simp; done) | (simp; omega)

theorem tw_step (p : UInt8 → Bool) (s : ByteArray) (k : Nat) (h : k < s.size) (hp : p s[k] = true) : ((s.data.toList.drop k).takeWhile p).length = 1 + ((s.data.toList.drop (k + 1)).takeWhile p).length := by
  rw [drop_at s k h, List.takeWhile_cons, if_pos hp]; simp; omega
theorem tw_stop (p : UInt8 → Bool) (s : ByteArray) (k : Nat) (h : ∀ h : k < s.size, p s[k] = false) : ((s.data.toList.drop k).takeWhile p).length = 0 := by
  by_cases hk : k < s.size
  · rw [drop_at s k hk, List.takeWhile_cons, if_neg (by rw [h hk]; simp)]; rfl
  · rw [drop_end s k (by omega)]; rfl
set_option maxHeartbeats 1000000 in
theorem digs_any (s : ByteArray) (w : World) (hs : s.size ≤ 100000) : Calls Try.prog 46 #[.string s] w fun e w' => e = .returned (.int .i64 (digL s.data.toList)) ∧ w' = w := by
  have C1 := Lib.hid fun c W => isdg_any c W
  have H0 : Hid (digL s.data.toList = 0 + ((s.data.toList.drop 0).takeWhile isDg).length) := Lib.hid (by unfold digL; simp)
  generalize hD : digL s.data.toList = D at *
  clear hD
  go_enter Try.func46, Try.ntmps46
  go_wp2
  go_loop [3] (fun i => ∃ k : Nat, k ≤ s.size ∧ i = .int .i64 k ∧ Hid (D = k + ((s.data.toList.drop k).takeWhile isDg).length)) (fun i => s.size - (intOf i).toNat)
  case atStart => exact ⟨0, Nat.zero_le _, rfl, H0⟩
  case round =>
    obtain ⟨k, hk, rfl, HK⟩ := hrel
    by_cases hlt : k < s.size
    · cases hd : isDg s[k] with
      | true =>
        have HN : Hid (D = (k + 1) + ((s.data.toList.drop (k + 1)).takeWhile isDg).length) := Lib.hid (by have := HK.out; rw [tw_step _ s k hlt hd] at this; omega)
        clear HK
        go_wp2_with ((with_reducible refine (C1.out _ _).mono ?_); rw [hd]; rintro e w1 ⟨rfl, rfl⟩)
        go_round
        case rel => exact ⟨k + 1, by omega, by go_num, HN⟩
        case measure => simp [intOf]; omega
      | false =>
        have HE : Hid (D = k) := Lib.hid (by have := HK.out; rw [tw_stop _ s k (fun _ => hd)] at this; omega)
        clear HK
        go_wp2_with ((with_reducible refine (C1.out _ _).mono ?_); rw [hd]; rintro e w1 ⟨rfl, rfl⟩)
        go_ret
        rw [HE.out]; exact ⟨rfl, rfl⟩
    · have HE : Hid (D = k) := Lib.hid (by have := HK.out; rw [tw_stop _ s k (fun h => absurd h hlt)] at this; omega)
      clear HK
      go_wp2
      go_ret
      rw [HE.out]; exact ⟨rfl, rfl⟩
set_option maxHeartbeats 1000000 in
theorem nms_any (s : ByteArray) (w : World) (hs : s.size ≤ 100000) : Calls Try.prog 27 #[.string s] w fun e w' => e = .returned (.int .i64 (nmL s.data.toList)) ∧ w' = w := by
  have C1 := Lib.hid fun c W => islt_any c W
  have C2 := Lib.hid fun c W => isdg_any c W
  have H0 : Hid (nmL s.data.toList = 0 + ((s.data.toList.drop 0).takeWhile isNm).length) := Lib.hid (by unfold nmL; simp)
  generalize hD : nmL s.data.toList = D at *
  clear hD
  go_enter Try.func27, Try.ntmps27
  go_wp2
  go_loop [3] (fun i => ∃ k : Nat, k ≤ s.size ∧ i = .int .i64 k ∧ Hid (D = k + ((s.data.toList.drop k).takeWhile isNm).length)) (fun i => s.size - (intOf i).toNat)
  case atStart => exact ⟨0, Nat.zero_le _, rfl, H0⟩
  case round =>
    obtain ⟨k, hk, rfl, HK⟩ := hrel
    by_cases hlt : k < s.size
    · cases hl : isLt s[k] with
      | true =>
        have HN : Hid (D = (k + 1) + ((s.data.toList.drop (k + 1)).takeWhile isNm).length) := Lib.hid (by have := HK.out; rw [tw_step _ s k hlt (by unfold isNm; rw [hl]; rfl)] at this; omega)
        clear HK
        go_wp2_with ((with_reducible refine (C1.out _ _).mono ?_); rw [hl]; rintro e w1 ⟨rfl, rfl⟩)
        go_round
        case rel => exact ⟨k + 1, by omega, by go_num, HN⟩
        case measure => simp [intOf]; omega
      | false =>
        cases hd : isDg s[k] with
        | true =>
          have HN : Hid (D = (k + 1) + ((s.data.toList.drop (k + 1)).takeWhile isNm).length) := Lib.hid (by have := HK.out; rw [tw_step _ s k hlt (by unfold isNm; rw [hl, hd]; rfl)] at this; omega)
          clear HK
          go_wp2_with (first | ((with_reducible refine (C1.out _ _).mono ?_); rw [hl]; rintro e w1 ⟨rfl, rfl⟩) | ((with_reducible refine (C2.out _ _).mono ?_); rw [hd]; rintro e w1 ⟨rfl, rfl⟩))
          go_round
          case rel => exact ⟨k + 1, by omega, by go_num, HN⟩
          case measure => simp [intOf]; omega
        | false =>
          have HE : Hid (D = k) := Lib.hid (by have := HK.out; rw [tw_stop _ s k (fun _ => by unfold isNm; rw [hl, hd]; rfl)] at this; omega)
          clear HK
          go_wp2_with (first | ((with_reducible refine (C1.out _ _).mono ?_); rw [hl]; rintro e w1 ⟨rfl, rfl⟩) | ((with_reducible refine (C2.out _ _).mono ?_); rw [hd]; rintro e w1 ⟨rfl, rfl⟩))
          go_ret
          rw [HE.out]; exact ⟨rfl, rfl⟩
    · have HE : Hid (D = k) := Lib.hid (by have := HK.out; rw [tw_stop _ s k (fun h => absurd h hlt)] at this; omega)
      clear HK
      go_wp2
      go_ret
      rw [HE.out]; exact ⟨rfl, rfl⟩

/-! A comment. -/
theorem cmt_index : ∀ l : List UInt8, Lib.indexByte l 10 = if (10 : UInt8) ∈ l then (cmtL l : Int) else -1
  | [] => rfl
  | b :: l => by
    unfold Lib.indexByte cmtL
    by_cases h : b = 10
    · subst h; simp
    · have hb : (b == 10) = false := by simpa using h
      have h10 : ¬ (10 : UInt8) = b := fun e => h e.symm
      have ih := cmt_index l
      have hbn : (b != 10) = true := by simpa using h
      rw [if_neg (show ¬ (b == 10) = true by rw [hb]; simp), List.takeWhile_cons, if_pos hbn]
      unfold cmtL at ih
      by_cases hl : (10 : UInt8) ∈ l
      · rw [if_pos hl] at ih
        rw [if_pos (List.mem_cons_of_mem _ hl), ih]
        have : ¬ ((List.takeWhile (fun x => x != 10) l).length : Int) = -1 := by omega
        simp [this]
      · rw [if_neg hl] at ih
        have hm : ¬ (10 : UInt8) ∈ b :: l := by simp [hl, h10]
        rw [ih, if_neg hm]
        simp
theorem cmt_all : ∀ l : List UInt8, (10 : UInt8) ∉ l → cmtL l = l.length
  | [], _ => rfl
  | b :: l, h => by
    have hb : (b != 10) = true := by
      rw [bne_iff_ne]; rintro rfl; exact h (List.mem_cons_self ..)
    have ih := cmt_all l (fun hl => h (List.mem_cons_of_mem _ hl))
    unfold cmtL at ih ⊢
    rw [List.takeWhile_cons, if_pos hb, List.length_cons, ih, List.length_cons]
theorem cmts_any (s : ByteArray) (w : World) (_hs : s.size ≤ 100000) : Calls Try.prog 38 #[.string s] w fun e w' => e = .returned (.int .i64 (cmtL s.data.toList)) ∧ w' = w := by
  have C := Lib.hid fun W => Try.strings_IndexByte s 10 W
  have e : Lib.indexByte s.data.toList (10 : Int).toNat.toUInt8 = if (10 : UInt8) ∈ s.data.toList then (cmtL s.data.toList : Int) else -1 := cmt_index _
  rw [e] at C
  by_cases h : (10 : UInt8) ∈ s.data.toList
  · rw [if_pos h] at C
    have hc := cmt_le s.data.toList
    rw [ba_sz] at hc
    generalize cmtL s.data.toList = D at *
    clear e h
    go_enter Try.func38, Try.ntmps38
    go_wp2_with ((with_reducible refine (C.out _).mono ?_); rintro e w1 ⟨rfl, rfl⟩)
    go_ret
    exact ⟨rfl, rfl⟩
  · rw [if_neg h] at C
    rw [cmt_all _ h, ba_sz]
    clear e h
    go_enter Try.func38, Try.ntmps38
    go_wp2_with ((with_reducible refine (C.out _).mono ?_); rintro e w1 ⟨rfl, rfl⟩)
    go_ret
    exact ⟨rfl, rfl⟩
theorem hp_one (r : List UInt8) (c : UInt8) : Lib.hasPrefix r [c] = decide (r.head? = some c) := by
  unfold Lib.hasPrefix
  cases r with
  | nil => simp [List.isPrefixOf]
  | cons a r => rw [Bool.eq_iff_iff]; simp [List.isPrefixOf]; exact eq_comm
theorem hp_is (s : ByteArray) (c : UInt8) (b : Bool) (h : decide (s.data.toList.head? = some c) = b) (w : World) :
    Calls Try.prog 37 #[.string s, .string ⟨#[c]⟩] w fun e w' => e = .returned (.bool b) ∧ w' = w := by
  refine (Try.strings_HasPrefix s ⟨#[c]⟩ w).mono ?_
  rintro e w' ⟨rfl, rfl⟩
  refine ⟨?_, rfl⟩
  rw [← h, ← hp_one]
end Go.Proofs.Ytfmjajmdkndknaa
