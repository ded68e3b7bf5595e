/-
  CONTRACTS of the Reader's number, Int, Done: what each answers, where the Reader stands behind it, which error it bears.
-/
import Derived.Test.YtohlnpopkaoljaaDoorPkRdDigits
namespace Go.Proofs.YtohlnpopkaoljaaDoor
open Go.RowKit

theorem digP_le (s : ByteArray) (first most : Nat) : ∀ f i n, i ≤ s.size → (digP s first most f i n).1 ≤ s.size ∧ (digP s first most f i n).2.2 ≤ most := by
  intro f
  induction f with
  | zero => intro i n hi; exact ⟨hi, Nat.zero_le _⟩
  | succ f ih =>
    intro i n hi
    unfold digP
    by_cases h : dgB s i = true
    · rw [if_pos h]
      by_cases h2 : i - first = 19 ∨ (i - first = 1 ∧ n = 0)
      · rw [if_pos h2]; exact ⟨hi, Nat.zero_le _⟩
      · rw [if_neg h2]; exact ih _ _ (dgB_lt h)
    · rw [if_neg h]
      by_cases h2 : i = first
      · rw [if_pos h2]; exact ⟨hi, Nat.zero_le _⟩
      · rw [if_neg h2]
        by_cases h3 : n > most
        · rw [if_pos h3]; exact ⟨hi, Nat.zero_le _⟩
        · rw [if_neg h3]; exact ⟨hi, Nat.le_of_not_lt h3⟩
theorem dig_le (s : ByteArray) (i k most : Nat) (hi : i ≤ s.size) : (dig s i k most).1 ≤ s.size ∧ (dig s i k most).2.2 ≤ most := by
  unfold dig
  by_cases h : k ≠ 0
  · rw [if_pos h]; exact ⟨hi, Nat.zero_le _⟩
  · rw [if_neg h]; exact digP_le _ _ _ _ _ _ hi
theorem stB_lt {s : ByteArray} {i c : Nat} (h : stB s i c = true) : i < s.size := by
  unfold stB at h
  by_cases hq : i < s.size
  · exact hq
  · rw [dif_neg hq] at h; cases h
theorem signA_le (s : ByteArray) (i k c : Nat) (hi : i ≤ s.size) : signA s i k c ≤ s.size := by
  unfold signA
  by_cases h : k ≠ 0
  · rw [if_pos h]; exact hi
  · rw [if_neg h]
    by_cases h2 : stB s i c = true
    · rw [if_pos h2]; exact stB_lt h2
    · rw [if_neg h2]; exact hi

def maxInt : Nat := 9223372036854775807
/-- What number does: the place, the error, the answer. -/
def numP (s : ByteArray) (i k : Nat) : Nat × Nat × Int :=
  if k ≠ 0 then (i, k, 0)
  else if stB s i 45 = true then
    if stB s (i + 1) 48 = true then (i + 1, 3, 0) else ((dig s (i + 1) 0 (maxInt + 1)).1, (dig s (i + 1) 0 (maxInt + 1)).2.1, -((dig s (i + 1) 0 (maxInt + 1)).2.2 : Int))
  else ((dig s i 0 maxInt).1, (dig s i 0 maxInt).2.1, ((dig s i 0 maxInt).2.2 : Int))
theorem numP_le (s : ByteArray) (i k : Nat) (hi : i ≤ s.size) : (numP s i k).1 ≤ s.size := by
  unfold numP
  by_cases h : k ≠ 0
  · rw [if_pos h]; exact hi
  · rw [if_neg h]
    by_cases h2 : stB s i 45 = true
    · rw [if_pos h2]
      by_cases h3 : stB s (i + 1) 48 = true
      · rw [if_pos h3]; exact stB_lt h2
      · rw [if_neg h3]; exact (dig_le s (i + 1) 0 _ (stB_lt h2)).1
    · rw [if_neg h2]; exact (dig_le s i 0 _ hi).1
/-- 'int(-n)' of an n up to 2^63. -/
theorem neg_int (n : Nat) (h : n ≤ maxInt + 1) : wrap64 (IntKind.u64.wrap (-(n : Int))) = -(n : Int) := by
  have e : ∀ x : Int, IntKind.i64.wrap x = wrap64 x := IntWalk.i64_left
  unfold maxInt at h
  rw [← e, IntKind.wrap_u64, IntKind.wrap_i64]; omega
theorem ret_i64 {a b : Int} (h : a = b) : Ending.returned (.int .i64 a) = .returned (.int .i64 b) := by rw [h]


/-- What Int does: the place, the error, the answer. -/
def intP1 (s : ByteArray) (i k : Nat) : Nat × Nat × Int := numP s (signA s i k 105) (signE s i k 105)
def intP (s : ByteArray) (i k : Nat) : Nat × Nat × Int :=
  (signA s (intP1 s i k).1 (intP1 s i k).2.1 59, signE s (intP1 s i k).1 (intP1 s i k).2.1 59, if signE s (intP1 s i k).1 (intP1 s i k).2.1 59 ≠ 0 then 0 else (intP1 s i k).2.2)
theorem intP1_le (s : ByteArray) (i k : Nat) (hi : i ≤ s.size) : (intP1 s i k).1 ≤ s.size := numP_le _ _ _ (signA_le _ _ _ _ hi)
theorem intP_le (s : ByteArray) (i k : Nat) (hi : i ≤ s.size) : (intP s i k).1 ≤ s.size := signA_le _ _ _ _ (intP1_le s i k hi)


/-- What Done answers. -/
def doneE (s : ByteArray) (i j k : Nat) : Nat := if k ≠ 0 then k else if i < s.size ∨ 0 < j then 3 else 0
end Go.Proofs.YtohlnpopkaoljaaDoor
