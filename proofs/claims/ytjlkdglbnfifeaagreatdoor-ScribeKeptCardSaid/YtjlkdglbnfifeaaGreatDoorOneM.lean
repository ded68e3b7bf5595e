/-
  PLAIN MATHEMATICS: what was read without an error is spelt as it would be written: numbers and texts have one spelling.
-/
import Derived.Test.YtjlkdglbnfifeaaGreatDoorAwake1
namespace Go.Proofs.YtjlkdglbnfifeaaGreatDoor.Pk

/-- The bytes from i up to a. -/
def sl (s : ByteArray) (i a : Nat) : List UInt8 := (s.data.toList.drop i).take (a - i)
theorem sl_self (s : ByteArray) (i : Nat) : sl s i i = [] := by simp [sl]
theorem sl_succ (s : ByteArray) (i a : Nat) (hi : i ≤ a) (ha : a < s.size) : sl s i (a + 1) = sl s i a ++ [s[a]] := by
  unfold sl
  have hl : a < s.data.toList.length := by simpa using ha
  rw [show a + 1 - i = (a - i) + 1 from by omega, List.take_succ_eq_append_getElem (by rw [List.length_drop]; omega)]
  congr 1
  rw [List.getElem_drop]
  simp only [show i + (a - i) = a from by omega]
  rfl
theorem sl_cons (s : ByteArray) (i a : Nat) (hi : i < a) (ha : a ≤ s.size) : sl s i a = s[i] :: sl s (i + 1) a := by
  unfold sl
  have hl : i < s.data.toList.length := by simpa using (by omega : i < s.size)
  rw [List.drop_eq_getElem_cons hl, show a - i = (a - (i + 1)) + 1 from by omega, List.take_succ_cons]
  rfl
theorem sl_join (s : ByteArray) (i a c : Nat) (h1 : i ≤ a) (h2 : a ≤ c) : sl s i a ++ sl s a c = sl s i c := by
  unfold sl
  rw [show c - i = (a - i) + (c - a) from by omega, List.take_add, List.drop_drop, show i + (a - i) = a from by omega]
theorem sl_all (s : ByteArray) : sl s 0 s.size = s.data.toList := by unfold sl; rw [List.drop_zero, List.take_of_length_le (by simp)]

theorem refE_ne (s : ByteArray) (i : Nat) : refE s i ≠ 0 := by unfold refE; split <;> omega
theorem sign_ok {s : ByteArray} {i k c : Nat} (h : signE s i k c = 0) : k = 0 ∧ stB s i c = true ∧ signA s i k c = i + 1 := by
  by_cases hk : k ≠ 0
  · unfold signE at h; rw [if_pos hk] at h; omega
  · have hk0 : k = 0 := by omega
    by_cases hst : stB s i c = true
    · exact ⟨hk0, hst, by unfold signA; rw [if_neg hk, if_pos hst]⟩
    · unfold signE at h; rw [if_neg hk, if_neg hst] at h; exact absurd h (refE_ne s i)
theorem stB_at {s : ByteArray} {i c : Nat} (hc : c < 256) (h : stB s i c = true) : ∃ hi : i < s.size, s[i] = UInt8.ofNat c := by
  have hi := stB_lt h
  refine ⟨hi, ?_⟩
  unfold stB at h
  rw [dif_pos hi, beq_iff_eq] at h
  apply UInt8.toNat.inj
  rw [h, UInt8.toNat_ofNat_of_lt' hc]
theorem dgB_at {s : ByteArray} {i : Nat} (h : dgB s i = true) : ∃ hi : i < s.size, s[i] = UInt8.ofNat (48 + dgV s i) ∧ dgV s i < 10 := by
  have hi := dgB_lt h
  refine ⟨hi, ?_⟩
  unfold dgB at h
  rw [dif_pos hi] at h
  have h2 : 48 ≤ s[i].toNat ∧ s[i].toNat ≤ 57 := by simpa [digB] using h
  unfold dgV
  rw [dif_pos hi]
  refine ⟨?_, by omega⟩
  rw [show 48 + (s[i].toNat - 48) = s[i].toNat from by omega]
  simp
theorem decDigits_push (n d : Nat) (hn : n ≠ 0) (hd : d < 10) : Lib.decDigits (n * 10 + d) = Lib.decDigits n ++ [UInt8.ofNat (48 + d)] := by
  rw [Lib.decDigits, dif_neg (by omega), show (n * 10 + d) / 10 = n from by omega, show (n * 10 + d) % 10 = d from by omega]

/-- Digits that were taken without an error are those of the number. -/
theorem digP_spell (s : ByteArray) (i most : Nat) : ∀ f a n p m, i ≤ a → ((a = i ∧ n = 0) ∨ (i < a ∧ sl s i a = Lib.decDigits n ∧ (i + 2 ≤ a → n ≠ 0))) → digP s i most f a n = (p, 0, m) → i < p ∧ sl s i p = Lib.decDigits m := by
  intro f
  induction f with
  | zero => intro a n p m _ _ h; simp [digP] at h
  | succ f ih =>
    intro a n p m hia hinv h
    rw [digP] at h
    by_cases hd : dgB s a = true
    · rw [if_pos hd] at h
      obtain ⟨ha, hsa, hd10⟩ := dgB_at hd
      by_cases hbad : a - i = 19 ∨ (a - i = 1 ∧ n = 0)
      · rw [if_pos hbad] at h; simp at h
      · rw [if_neg hbad] at h
        refine ih (a + 1) _ p m (by omega) (Or.inr ⟨by omega, ?_, ?_⟩) h
        · rw [sl_succ s i a hia ha, hsa]
          rcases hinv with ⟨rfl, rfl⟩ | ⟨hlt, hsl, hnz⟩
          · rw [sl_self, show 0 * 10 + dgV s a = dgV s a from by omega, Lib.decDigits_one hd10]; rfl
          · rw [hsl, decDigits_push n _ (by omega) hd10]
        · intro h2
          rcases hinv with ⟨rfl, rfl⟩ | ⟨hlt, hsl, hnz⟩
          · omega
          · have : n ≠ 0 := by omega
            omega
    · rw [if_neg hd] at h
      by_cases hai : a = i
      · rw [if_pos hai] at h
        simp only [Prod.mk.injEq] at h
        exact absurd h.2.1 (refE_ne s a)
      · rw [if_neg hai] at h
        by_cases hm : n > most
        · rw [if_pos hm] at h; simp at h
        · rw [if_neg hm] at h
          simp only [Prod.mk.injEq, true_and] at h
          obtain ⟨rfl, rfl⟩ := h
          rcases hinv with ⟨h1, _⟩ | ⟨hlt, hsl, _⟩
          · exact absurd h1 hai
          · exact ⟨hlt, hsl⟩
theorem dig_spell (s : ByteArray) (i most p m : Nat) (h : dig s i 0 most = (p, 0, m)) : i < p ∧ sl s i p = Lib.decDigits m := by
  unfold dig at h
  rw [if_neg (by omega)] at h
  exact digP_spell s i most _ i 0 p m (Nat.le_refl _) (Or.inl ⟨rfl, rfl⟩) h

/-- A number that was taken without an error is spelt as strconv spells it. -/
theorem numP_spell (s : ByteArray) (i k p : Nat) (n : Int) (h : numP s i k = (p, 0, n)) : k = 0 ∧ i < p ∧ sl s i p = Lib.itoa n := by
  unfold numP at h
  by_cases hk : k ≠ 0
  · rw [if_pos hk] at h; simp only [Prod.mk.injEq] at h; omega
  · rw [if_neg hk] at h
    refine ⟨by omega, ?_⟩
    by_cases hst : stB s i 45 = true
    · rw [if_pos hst] at h
      by_cases hz : stB s (i + 1) 48 = true
      · rw [if_pos hz] at h; simp at h
      · rw [if_neg hz] at h
        simp only [Prod.mk.injEq] at h
        obtain ⟨h1, h2, h3⟩ := h
        have hd : dig s (i + 1) 0 (maxInt + 1) = (p, 0, (dig s (i + 1) 0 (maxInt + 1)).2.2) := Prod.ext h1 (Prod.ext h2 rfl)
        have hp := (dig_le s (i + 1) 0 (maxInt + 1) (stB_lt hst)).1
        rw [h1] at hp
        generalize (dig s (i + 1) 0 (maxInt + 1)).2.2 = m at *
        obtain ⟨hlt, hsl⟩ := dig_spell s (i + 1) _ p m hd
        obtain ⟨hi, hsi⟩ := stB_at (by omega) hst
        have hm : 1 ≤ m := by
          by_cases hm0 : m = 0
          · exfalso
            rw [hm0, Lib.decDigits_one (by omega), sl_cons s (i + 1) p hlt hp] at hsl
            simp only [List.cons.injEq] at hsl
            apply hz
            have hi1 : i + 1 < s.size := by omega
            unfold stB
            rw [dif_pos hi1, hsl.1]
            rfl
          · omega
        refine ⟨by omega, ?_⟩
        rw [sl_cons s i p (by omega) hp, hsl, hsi, ← h3, Lib.itoa_neg m hm]
        rfl
    · rw [if_neg hst] at h
      simp only [Prod.mk.injEq] at h
      obtain ⟨h1, h2, h3⟩ := h
      have hd : dig s i 0 maxInt = (p, 0, (dig s i 0 maxInt).2.2) := Prod.ext h1 (Prod.ext h2 rfl)
      generalize (dig s i 0 maxInt).2.2 = m at *
      obtain ⟨hlt, hsl⟩ := dig_spell s i _ p m hd
      exact ⟨hlt, by rw [hsl, ← h3, Lib.itoa_nonneg]⟩

/-- One spelling of a number. -/
theorem int_one (s : ByteArray) (h1 : (intP s 0 0).2.1 = 0) (h2 : (intP s 0 0).1 = s.size) : s.data.toList = intL (intP s 0 0).2.2 := by
  have e3 : (intP s 0 0).2.2 = (intP1 s 0 0).2.2 := by
    show (if signE s (intP1 s 0 0).1 (intP1 s 0 0).2.1 59 ≠ 0 then 0 else (intP1 s 0 0).2.2) = _
    have : signE s (intP1 s 0 0).1 (intP1 s 0 0).2.1 59 = 0 := h1
    rw [if_neg (by rw [this]; simp)]
  rw [e3]
  obtain ⟨hn0, hst, hA⟩ := sign_ok (show signE s (intP1 s 0 0).1 (intP1 s 0 0).2.1 59 = 0 from h1)
  have hend : (intP1 s 0 0).1 + 1 = s.size := by rw [← hA]; exact h2
  have hN : numP s (signA s 0 0 105) (signE s 0 0 105) = ((intP1 s 0 0).1, 0, (intP1 s 0 0).2.2) := Prod.ext rfl (Prod.ext hn0 rfl)
  obtain ⟨hk, hlt, hsl⟩ := numP_spell s _ _ _ _ hN
  obtain ⟨_, hst0, hA0⟩ := sign_ok hk
  rw [hA0] at hlt hsl
  generalize (intP1 s 0 0).1 = p at *
  generalize (intP1 s 0 0).2.2 = n at *
  obtain ⟨h0, hs0⟩ := stB_at (by omega) hst0
  obtain ⟨hp, hsp⟩ := stB_at (by omega) hst
  have e2 : sl s 1 s.size = sl s 1 p ++ [s[p]] := by have := sl_succ s 1 p (by omega) hp; rwa [hend] at this
  have e1 : sl s 0 s.size = s[0] :: (sl s 1 p ++ [s[p]]) := by
    rw [sl_cons s 0 s.size (by omega) (by omega), ← e2]
  rw [← sl_all, e1, hs0, hsp]
  unfold intL
  rw [← hsl]
  rfl

/-- One spelling of a text. -/
theorem text_one (s : ByteArray) (most : Nat) (h1 : (txP s 0 0 most).2.1 = 0) (h2 : (txP s 0 0 most).1 = s.size) : s.data.toList = textL (txP s 0 0 most).2.2.data.toList := by
  unfold txP at h1 h2 ⊢
  by_cases h3 : txE3 s (dig s 0 0 maxInt) most ≠ 0
  · rw [if_pos h3] at h1; exact absurd h1 h3
  · rw [if_neg h3] at h2 ⊢
    have hE3 : txE3 s (dig s 0 0 maxInt) most = 0 := by omega
    unfold txE3 at hE3
    by_cases h4 : txE2 s (dig s 0 0 maxInt) most ≠ 0
    · rw [if_pos h4] at hE3; exact absurd hE3 h4
    · rw [if_neg h4] at hE3
      by_cases h5 : s.size - txA2 s (dig s 0 0 maxInt) most < (dig s 0 0 maxInt).2.2
      · rw [if_pos h5] at hE3; omega
      · have hE2 : signE s (dig s 0 0 maxInt).1 (txE1 (dig s 0 0 maxInt) most) 58 = 0 := by
          have : txE2 s (dig s 0 0 maxInt) most = 0 := by omega
          exact this
        obtain ⟨hE1, hst, hA⟩ := sign_ok hE2
        have hA2 : txA2 s (dig s 0 0 maxInt) most = (dig s 0 0 maxInt).1 + 1 := hA
        have hd1 : (dig s 0 0 maxInt).2.1 = 0 := by
          unfold txE1 at hE1
          by_cases h6 : (dig s 0 0 maxInt).2.1 ≠ 0
          · rw [if_pos h6] at hE1; exact absurd hE1 h6
          · omega
        have hd : dig s 0 0 maxInt = ((dig s 0 0 maxInt).1, 0, (dig s 0 0 maxInt).2.2) := Prod.ext rfl (Prod.ext hd1 rfl)
        obtain ⟨hlt, hsl⟩ := dig_spell s 0 _ _ _ hd
        rw [hA2] at h2 ⊢
        generalize (dig s 0 0 maxInt).1 = p at *
        generalize (dig s 0 0 maxInt).2.2 = n at *
        clear hd
        obtain ⟨hp, hsp⟩ := stB_at (by omega) hst
        have hx : (s.extract (p + 1) (p + 1 + n)).data.toList = sl s (p + 1) s.size := by
          rw [Lib.extract_data]; unfold sl; rw [show s.size - (p + 1) = p + 1 + n - (p + 1) from by simp only at h2; omega]
        have hxl : (sl s (p + 1) s.size).length = n := by
          unfold sl
          simp only [List.length_take, List.length_drop, Array.length_toList, ByteArray.size_data]
          simp only at h2
          omega
        simp only
        rw [hx]
        unfold textL
        rw [hxl, Lib.itoa_nonneg, ← hsl, ← sl_all, ← sl_join s 0 p s.size (by omega) (by omega), sl_cons s p s.size hp (Nat.le_refl _), hsp]
        simp
end Go.Proofs.YtjlkdglbnfifeaaGreatDoor.Pk
