/-
  PLAIN MATHEMATICS: what stands written is read: a number, a text, a list's begin and end.
-/
import Derived.Test.YtjnhaglcigpknaaDoorArW8
namespace Go.Proofs.YtjnhaglcigpknaaDoor
open Go.RowKit

/-- From byte i on stand these bytes. -/
def At (s : ByteArray) (i : Nat) (l : List UInt8) : Prop := s.data.toList.drop i = l
theorem At.lt {s : ByteArray} {i : Nat} {c : UInt8} {l : List UInt8} (h : At s i (c :: l)) : ∃ hi : i < s.size, s[i] = c := by
  have hl : i < s.data.toList.length := by
    rcases Nat.lt_or_ge i s.data.toList.length with h1 | h1
    · exact h1
    · unfold At at h; rw [List.drop_of_length_le h1] at h; cases h
  refine ⟨by simpa using hl, ?_⟩
  unfold At at h
  rw [List.drop_eq_getElem_cons hl] at h
  injection h with h1 h2
theorem At.tail {s : ByteArray} {i : Nat} {l m : List UInt8} (h : At s i (l ++ m)) : At s (i + l.length) m := by
  unfold At at h ⊢
  rw [← List.drop_drop, h, List.drop_left]
theorem At.len {s : ByteArray} {i : Nat} {l m : List UInt8} (h : At s i (l ++ m)) (hl : l ≠ []) : i + l.length ≤ s.size := by
  have := congrArg List.length h
  have h2 : 0 < l.length := List.length_pos_iff.2 hl
  simp at this
  omega
theorem At.stB {s : ByteArray} {i c : Nat} {b : UInt8} {l : List UInt8} (h : At s i (b :: l)) : stB s i c = (b.toNat == c) := by
  obtain ⟨hi, h1⟩ := h.lt
  unfold Proofs.YtjnhaglcigpknaaDoor.stB
  rw [dif_pos hi, h1]
theorem At.dgB {s : ByteArray} {i : Nat} {b : UInt8} {l : List UInt8} (h : At s i (b :: l)) : dgB s i = digB b.toNat := by
  obtain ⟨hi, h1⟩ := h.lt
  unfold Proofs.YtjnhaglcigpknaaDoor.dgB
  rw [dif_pos hi, h1]
theorem At.dgV {s : ByteArray} {i : Nat} {b : UInt8} {l : List UInt8} (h : At s i (b :: l)) : dgV s i = b.toNat - 48 := by
  obtain ⟨hi, h1⟩ := h.lt
  unfold Proofs.YtjnhaglcigpknaaDoor.dgV
  rw [dif_pos hi, h1]
theorem digit_nat {d : Nat} (h : d < 10) : (UInt8.ofNat (48 + d)).toNat = 48 + d := by simp; omega
theorem decDigits_len : ∀ (k n : Nat), n < 10 ^ (k + 1) → (Lib.decDigits n).length ≤ k + 1
  | 0, n, h => by rw [Lib.decDigits_one (by simpa using h)]; simp
  | k + 1, n, h => by
    rw [Lib.decDigits]
    split
    · simp
    · have := decDigits_len k (n / 10) (by rw [Nat.pow_succ] at h; omega)
      simp; omega
theorem decDigits_pos (n : Nat) : 0 < (Lib.decDigits n).length := by rw [Lib.decDigits_length]; exact Lib.nDigits_pos n

/-- Digits are gone through. -/
theorem digP_read (s : ByteArray) (i most : Nat) : ∀ (n : Nat) (f : Nat) (R : List UInt8), At s i (Lib.decDigits n ++ R) → (Lib.decDigits n).length ≤ 19 → (Lib.decDigits n).length ≤ f →
    digP s i most f i 0 = digP s i most (f - (Lib.decDigits n).length) (i + (Lib.decDigits n).length) n := by
  intro n
  induction n using Nat.strongRecOn with
  | ind n ih =>
    intro f R h h19 hf
    by_cases h10 : n < 10
    · rw [Lib.decDigits_one h10] at h hf ⊢
      obtain ⟨g, rfl⟩ : ∃ g, f = g + 1 := ⟨f - 1, by simp at hf; omega⟩
      have hd : dgB s i = true := by rw [At.dgB h, digit_nat h10]; unfold digB; simp; omega
      have hv : dgV s i = n := by rw [At.dgV h, digit_nat h10]; omega
      rw [digP, if_pos hd, if_neg (by omega), hv]
      simp
    · have e : Lib.decDigits n = Lib.decDigits (n / 10) ++ [UInt8.ofNat (48 + n % 10)] := by rw [Lib.decDigits, dif_neg h10]
      have hlen : (Lib.decDigits n).length = (Lib.decDigits (n / 10)).length + 1 := by rw [e]; simp
      have hp := decDigits_pos (n / 10)
      have h2 : At s i (Lib.decDigits (n / 10) ++ (UInt8.ofNat (48 + n % 10) :: R)) := by rw [e] at h; simpa using h
      rw [ih (n / 10) (by omega) f _ h2 (by omega) (by omega), hlen]
      obtain ⟨g, hg⟩ : ∃ g, f - (Lib.decDigits (n / 10)).length = g + 1 := ⟨f - (Lib.decDigits (n / 10)).length - 1, by omega⟩
      have h3 := h2.tail
      have hm : n % 10 < 10 := Nat.mod_lt _ (by omega)
      have hd : dgB s (i + (Lib.decDigits (n / 10)).length) = true := by rw [At.dgB h3, digit_nat hm]; unfold digB; simp; omega
      have hv : dgV s (i + (Lib.decDigits (n / 10)).length) = n % 10 := by rw [At.dgV h3, digit_nat hm]; omega
      rw [hg, digP, if_pos hd, if_neg (by omega), hv, show n / 10 * 10 + n % 10 = n from by omega, show f - ((Lib.decDigits (n / 10)).length + 1) = g from by omega]
      rfl
/-- A number's digits behind which no digit stands. -/
theorem dig_read {s : ByteArray} {i n most : Nat} {c : UInt8} {R : List UInt8} (h : At s i (Lib.decDigits n ++ c :: R)) (hc : digB c.toNat = false) (hm : n ≤ most) (h64 : most ≤ 9223372036854775808) : dig s i 0 most = (i + (Lib.decDigits n).length, 0, n) := by
  have hp := decDigits_pos n
  have h19 : (Lib.decDigits n).length ≤ 19 := decDigits_len 18 n (by omega)
  have hle := h.len (fun h => by rw [h] at hp; simp at hp)
  unfold dig
  rw [if_neg (by omega), digP_read s i most n _ _ h h19 (by omega)]
  obtain ⟨g, hg⟩ : ∃ g, s.size - i + 1 - (Lib.decDigits n).length = g + 1 := ⟨s.size - i - (Lib.decDigits n).length, by omega⟩
  rw [hg, digP, if_neg (by rw [At.dgB h.tail, hc]; simp), if_neg (by omega), if_neg (by omega)]
theorem decDigits_head : ∀ n : Nat, ∃ d l, Lib.decDigits n = UInt8.ofNat (48 + d) :: l ∧ d < 10 ∧ (n ≠ 0 → d ≠ 0) := by
  intro n
  induction n using Nat.strongRecOn with
  | ind n ih =>
    by_cases h10 : n < 10
    · exact ⟨n, [], Lib.decDigits_one h10, h10, id⟩
    · obtain ⟨d, l, h1, h2, h3⟩ := ih (n / 10) (by omega)
      exact ⟨d, l ++ [UInt8.ofNat (48 + n % 10)], by rw [Lib.decDigits, dif_neg h10, h1]; rfl, h2, fun _ => h3 (by omega)⟩
theorem num_read {s : ByteArray} {i : Nat} {n : Int} {c : UInt8} {R : List UInt8} (h : At s i (Lib.itoa n ++ c :: R)) (hc : digB c.toNat = false) (h0 : -9223372036854775808 ≤ n) (h1 : n ≤ 9223372036854775807) : numP s i 0 = (i + (Lib.itoa n).length, 0, n) := by
  unfold numP
  rw [if_neg (by omega)]
  by_cases hn : n < 0
  · obtain ⟨u, rfl⟩ : ∃ u : Nat, n = -(u : Int) := ⟨n.natAbs, by omega⟩
    rw [Lib.itoa_neg u (by omega)] at h ⊢
    have hs : stB s i 45 = true := by rw [At.stB h]; rfl
    have h2 : At s (i + 1) (Lib.decDigits u ++ c :: R) := At.tail (l := [45]) h
    obtain ⟨d, l, e, hd, hd0⟩ := decDigits_head u
    have hz : ¬ stB s (i + 1) 48 = true := by
      have h3 := h2
      rw [e] at h3
      rw [At.stB h3, digit_nat hd]
      have := hd0 (by omega)
      simp; omega
    rw [if_pos hs, if_neg hz, dig_read h2 hc (by unfold maxInt; omega) (by unfold maxInt; omega)]
    simp; omega
  · obtain ⟨u, rfl⟩ : ∃ u : Nat, n = (u : Int) := ⟨n.toNat, by omega⟩
    rw [Lib.itoa_nonneg] at h ⊢
    obtain ⟨d, l, e, hd, hd0⟩ := decDigits_head u
    have hs : ¬ stB s i 45 = true := by
      have h3 := h
      rw [e] at h3
      rw [At.stB h3, digit_nat hd]
      simp; omega
    rw [if_neg hs, dig_read h hc (by unfold maxInt; omega) (by unfold maxInt; omega)]
theorem sign_read {s : ByteArray} {i : Nat} {c : UInt8} {R : List UInt8} {k : Nat} (h : At s i (c :: R)) (hk : c.toNat = k) : signA s i 0 k = i + 1 ∧ signE s i 0 k = 0 := by
  have hs : stB s i k = true := by rw [At.stB h, hk]; simp
  unfold signA signE
  simp [hs]
/-- A number is read as it is written. -/
theorem int_read {s : ByteArray} {i : Nat} {n : Int} {R : List UInt8} (h : At s i (pI n ++ R)) (h0 : -9223372036854775808 ≤ n) (h1 : n ≤ 9223372036854775807) : intP s i 0 = (i + (pI n).length, 0, n) := by
  have ha : At s i (105 :: (Lib.itoa n ++ 59 :: R)) := by simpa [pI] using h
  have hb : At s (i + 1) (Lib.itoa n ++ 59 :: R) := At.tail (l := [105]) ha
  obtain ⟨a1, a2⟩ := sign_read (k := 105) ha rfl
  have hn := num_read hb rfl h0 h1
  obtain ⟨b1, b2⟩ := sign_read (k := 59) hb.tail rfl
  unfold intP intP1
  rw [a1, a2, hn]
  simp only
  rw [b1, b2, if_neg (by omega)]
  simp [pI]; omega
/-- A text is read as it is written. -/
theorem text_read {s t : ByteArray} {i most : Nat} {R : List UInt8} (h : At s i (pT t ++ R)) (hm : t.size ≤ most) (hz : t.size ≤ 100000) : txP s i 0 most = (i + (pT t).length, 0, t) := by
  have e : t.data.toList.length = t.size := by simp
  have hL : pT t = Lib.decDigits t.size ++ 58 :: t.data.toList := by
    unfold pT; rw [Lib.itoa_nonneg]; simp
  have ha : At s i (Lib.decDigits t.size ++ 58 :: (t.data.toList ++ R)) := by rw [hL] at h; simpa using h
  have hd := dig_read (most := maxInt) ha rfl (by unfold maxInt; omega) (by unfold maxInt; omega)
  have hb := ha.tail
  obtain ⟨b1, b2⟩ := sign_read (k := 58) hb rfl
  have hc : At s (i + (Lib.decDigits t.size).length + 1) (t.data.toList ++ R) := At.tail (l := [58]) hb
  have x1 : txE1 (i + (Lib.decDigits t.size).length, 0, t.size) most = 0 := by unfold txE1; simp; omega
  have x2 : txA2 s (i + (Lib.decDigits t.size).length, 0, t.size) most = i + (Lib.decDigits t.size).length + 1 := by unfold txA2; rw [x1]; exact b1
  have x3 : txE2 s (i + (Lib.decDigits t.size).length, 0, t.size) most = 0 := by unfold txE2; rw [x1]; exact b2
  have hle : i + (Lib.decDigits t.size).length + 1 + t.size ≤ s.size := by
    have := congrArg List.length hc
    obtain ⟨hlt, _⟩ := hb.lt
    simp at this; omega
  have x4 : txE3 s (i + (Lib.decDigits t.size).length, 0, t.size) most = 0 := by
    unfold txE3; rw [x2, x3, if_neg (by omega), if_neg (by simp; omega)]
  unfold txP
  rw [hd, x4, if_neg (by omega), x2]
  have et : s.extract (i + (Lib.decDigits t.size).length + 1) (i + (Lib.decDigits t.size).length + 1 + t.size) = t := by
    refine WideShapes.bytes_inj ?_
    unfold At at hc
    rw [ByteArray.data_extract, Array.toList_extract, List.extract_eq_take_drop, hc, show i + (Lib.decDigits t.size).length + 1 + t.size - (i + (Lib.decDigits t.size).length + 1) = t.data.toList.length from by rw [e]; omega, List.take_left]
  rw [et, hL]
  simp; omega
end Go.Proofs.YtjnhaglcigpknaaDoor
