/-
  CONTRACTS of layer 11's functions on blanks, numbers, signs, names and backslashes. Each reads alone. Condition: texts of at most 100000 bytes.
-/
import Derived.Test.YtfmjajmdkndknaaLxW1
namespace Go.Proofs.Ytfmjajmdkndknaa
open Go.RowKit

theorem head_drop (s : ByteArray) (k : Nat) : (s.data.toList.drop k).head? = if h : k < s.size then some s[k] else none := by
  by_cases h : k < s.size
  · rw [drop_at s k h, dif_pos h]; rfl
  · rw [drop_end s k (by omega), dif_neg h]; rfl
theorem nat_of {c : UInt8} {n : Nat} (hn : n < 256) (h : (c.toNat : Int) = (n : Int)) : c = UInt8.ofNat n := by
  apply UInt8.toNat_inj.1
  rw [UInt8.toNat_ofNat_of_lt' hn]; omega
theorem blank_one {c : UInt8} {t : List UInt8} (h : c = 32 ∨ c = 9 ∨ c = 13) : blankL (c :: t) = 1 + blankL t := by rw [blank_cons, if_pos h]
theorem blank_two {t : List UInt8} (h : t.head? = some 10) : blankL (92 :: t) = 2 + blankL (t.drop 1) := by
  rw [blank_cons, if_neg (by decide), if_pos rfl]
  cases t with
  | nil => cases h
  | cons d t => rw [List.head?_cons] at h; simp only [Option.some.inj h, if_true, List.drop_succ_cons, List.drop_zero]
theorem blank_two0 {t : List UInt8} (h : ¬ t.head? = some 10) : blankL (92 :: t) = 0 := by
  rw [blank_cons, if_neg (by decide), if_pos rfl]
  cases t with
  | nil => rfl
  | cons d t =>
    have : ¬ d = 10 := fun e => h (by rw [e]; rfl)
    simp only [if_neg this]
theorem cmt_end : ∀ l : List UInt8, blankL (l.drop (cmtL l)) = 0
  | [] => rfl
  | b :: l => by
    by_cases h : b = 10
    · subst h
      rw [show cmtL (10 :: l) = 0 from rfl, List.drop_zero, blank_cons]
      simp
    · have hb : (b != 10) = true := by simpa using h
      have e : cmtL (b :: l) = cmtL l + 1 := by unfold cmtL; rw [List.takeWhile_cons, if_pos hb]; simp
      rw [e, List.drop_succ_cons]
      exact cmt_end l
theorem blank_cmt {t : List UInt8} : blankL (35 :: t) = cmtL (35 :: t) + blankL ((35 :: t).drop (cmtL (35 :: t))) := by
  rw [cmt_end, blank_cons, if_neg (by decide), if_neg (by decide), if_pos rfl]
  have e : cmtL (35 :: t) = cmtL t + 1 := by unfold cmtL; rw [List.takeWhile_cons, if_pos (by decide)]; simp
  omega
theorem blank_no {c : UInt8} {t : List UInt8} (h1 : ¬ (c = 32 ∨ c = 9 ∨ c = 13)) (h2 : ¬ c = 92) (h3 : ¬ c = 35) : blankL (c :: t) = 0 := by
  rw [blank_cons, if_neg h1, if_neg h2, if_neg h3]
set_option maxHeartbeats 2000000 in
theorem blank_any (s : ByteArray) (w : World) (hs : s.size ≤ 100000) : Calls Try.prog 21 #[.string s] w fun e w' => e = .returned (.int .i64 (blankL s.data.toList)) ∧ w' = w := by
  have C1 := Lib.hid fun t W (h : t.size ≤ 100000) => cmts_any t W h
  have H0 : Hid (blankL s.data.toList = 0 + blankL (s.data.toList.drop 0)) := Lib.hid (by simp)
  generalize hD : blankL s.data.toList = D at *
  clear hD
  go_enter Try.func21, Try.ntmps21
  go_wp2
  go_loop [3] (fun i => ∃ k : Nat, k ≤ s.size ∧ i = .int .i64 k ∧ Hid (D = k + blankL (s.data.toList.drop k))) (fun i => s.size - (intOf i).toNat)
  case atStart => exact ⟨0, Nat.zero_le _, rfl, H0⟩
  case round =>
    obtain ⟨k, hk, rfl, HK⟩ := hrel
    by_cases hlt : k < s.size
    · by_cases h1 : (s[k].toNat : Int) = 32 ∨ (s[k].toNat : Int) = 9 ∨ (s[k].toNat : Int) = 13
      · have HN : Hid (D = (k + 1) + blankL (s.data.toList.drop (k + 1))) := Lib.hid (by
          have := HK.out
          have hc : s[k] = 32 ∨ s[k] = 9 ∨ s[k] = 13 := h1.imp (nat_of (by decide)) (Or.imp (nat_of (by decide)) (nat_of (by decide)))
          rw [drop_at s k hlt, blank_one hc] at this
          omega)
        clear HK
        rcases h1 with h1 | h1 | h1
        all_goals
          go_wp2
          go_round
          case rel => exact ⟨k + 1, by omega, by go_num, HN⟩
          case measure => simp [intOf]; omega
      · have n1 : ¬ (s[k].toNat : Int) = 32 := fun h => h1 (.inl h)
        have n2 : ¬ (s[k].toNat : Int) = 9 := fun h => h1 (.inr (.inl h))
        have n3 : ¬ (s[k].toNat : Int) = 13 := fun h => h1 (.inr (.inr h))
        clear h1
        have c1 : ¬ (s[k] = 32 ∨ s[k] = 9 ∨ s[k] = 13) := by rintro (h | h | h) <;> rw [h] at n1 n2 n3 <;> simp at n1 n2 n3
        by_cases h2 : (s[k].toNat : Int) = 92
        · have c2 : s[k] = 92 := nat_of (by decide) h2
          have hK := HK.out
          rw [drop_at s k hlt, c2] at hK
          by_cases h3 : (s.data.toList.drop (k + 1)).head? = some 10
          · have hk2 : k + 2 ≤ s.size := by
              rw [head_drop] at h3; split at h3
              · omega
              · cases h3
            have HN : Hid (D = (k + 2) + blankL (s.data.toList.drop (k + 2))) := Lib.hid (by
              rw [blank_two h3, List.drop_drop] at hK
              rw [show k + 2 = k + 1 + 1 from rfl]; omega)
            have HP : Hid (decide ((s.extract (k + 1) s.size).data.toList.head? = some 10) = true) := Lib.hid (by rw [extk]; exact decide_eq_true h3)
            clear HK hK h3 c1 c2
            go_wp2_with (refine (hp_is _ 10 true HP.out _).mono ?_; rintro e w1 ⟨rfl, rfl⟩)
            go_round
            case rel => exact ⟨k + 2, by omega, by go_num, HN⟩
            case measure => simp [intOf]; omega
          · have HE : Hid (D = k) := Lib.hid (by rw [blank_two0 h3] at hK; omega)
            have HP : Hid (decide ((s.extract (k + 1) s.size).data.toList.head? = some 10) = false) := Lib.hid (by rw [extk]; exact decide_eq_false h3)
            clear HK hK h3 c1 c2
            go_wp2_with (refine (hp_is _ 10 false HP.out _).mono ?_; rintro e w1 ⟨rfl, rfl⟩)
            go_ret
            rw [HE.out]; exact ⟨rfl, rfl⟩
        · have c2 : ¬ s[k] = 92 := fun h => h2 (by rw [h]; rfl)
          by_cases h3 : (s[k].toNat : Int) = 35
          · have c3 : s[k] = 35 := nat_of (by decide) h3
            have hz : (s.extract k s.size).data.toList = s.data.toList.drop k := extk s k
            have hcl := cmt_le (s.data.toList.drop k)
            rw [List.length_drop, ba_sz] at hcl
            have C2 : Hid (∀ W, Calls Try.prog 38 #[.string (s.extract k s.size)] W fun e w' => e = .returned (.int .i64 (cmtL (s.data.toList.drop k))) ∧ w' = W) := Lib.hid fun W => by
              have := C1.out (s.extract k s.size) W (by simp; omega)
              rw [hz] at this; exact this
            have h0 : 0 < cmtL (s.data.toList.drop k) := by
              rw [drop_at s k hlt, c3]; unfold cmtL; rw [List.takeWhile_cons, if_pos (by decide)]; simp
            have HN : Hid (D = (k + cmtL (s.data.toList.drop k)) + blankL (s.data.toList.drop (k + cmtL (s.data.toList.drop k)))) := Lib.hid (by
              have := HK.out
              have e : blankL (s.data.toList.drop k) = cmtL (s.data.toList.drop k) + blankL ((s.data.toList.drop k).drop (cmtL (s.data.toList.drop k))) := by
                rw [drop_at s k hlt, c3]; exact blank_cmt
              rw [List.drop_drop] at e
              omega)
            generalize cmtL (s.data.toList.drop k) = m at *
            clear HK hz c1 c2
            go_wp2_with ((with_reducible refine (C2.out _).mono ?_); rintro e w1 ⟨rfl, rfl⟩)
            go_round
            case rel => exact ⟨k + m, by omega, by go_num, HN⟩
            case measure => simp [intOf]; omega
          · have c3 : ¬ s[k] = 35 := fun h => h3 (by rw [h]; rfl)
            have HE : Hid (D = k) := Lib.hid (by have := HK.out; rw [drop_at s k hlt, blank_no c1 c2 c3] at this; omega)
            clear HK c1 c2 c3
            have b1 : ((s[k].toNat : Int) == 32) = false := by simpa using n1
            have b2 : ((s[k].toNat : Int) == 9) = false := by simpa using n2
            have b3 : ((s[k].toNat : Int) == 13) = false := by simpa using n3
            have b4 : ((s[k].toNat : Int) == 92) = false := by simpa using h2
            have b5 : ((s[k].toNat : Int) == 35) = false := by simpa using h3
            go_wp2
            go_ret
            rw [HE.out]; exact ⟨rfl, rfl⟩
    · have HE : Hid (D = k) := Lib.hid (by have := HK.out; rw [drop_end s k (by omega)] at this; exact this)
      clear HK
      go_wp2
      go_ret
      rw [HE.out]; exact ⟨rfl, rfl⟩
end Go.Proofs.Ytfmjajmdkndknaa
