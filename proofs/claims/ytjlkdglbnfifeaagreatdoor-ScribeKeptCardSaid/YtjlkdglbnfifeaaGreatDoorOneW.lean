/-
  THE WALK of the law PackOne: whatever the text, it returns true and writes to nothing that was there, where the library's table of powers of ten is as its text lays it.
-/
import Derived.Test.YtjlkdglbnfifeaaGreatDoorOneM
namespace Go.Proofs.YtjlkdglbnfifeaaGreatDoor.Pk
open Go.RowKit

/-- At most k bytes of s. -/
def cutB (s : ByteArray) (k : Nat) : ByteArray := if k < s.size then s.extract 0 k else s
theorem cutB_size (s : ByteArray) (k : Nat) : (cutB s k).size ≤ k := by
  unfold cutB; split
  · simp; omega
  · omega
set_option maxHeartbeats 400000 in
theorem cut_any (s : ByteArray) (k : Nat) (w : World) (_hs : s.size ≤ maxLen) (_hk : k ≤ 100000) :
    Calls Tryz.prog 8 #[.string s, .int .i64 k] w fun e w' => e = .returned (.string (cutB s k)) ∧ w = w' := by
  unfold maxLen at _hs
  by_cases h : k < s.size
  · have e : cutB s k = s.extract 0 k := by unfold cutB; rw [if_pos h]
    rw [e]
    go_enter Tryz.func8, Tryz.ntmps8
    go_wp2
    go_ret
    exact ⟨rfl, rfl⟩
  · have e : cutB s k = s := by unfold cutB; rw [if_neg h]
    rw [e]
    go_enter Tryz.func8, Tryz.ntmps8
    go_wp2
    go_ret
    exact ⟨rfl, rfl⟩

theorem numP_bd (s : ByteArray) (i k : Nat) (hi : i ≤ s.size) : -9223372036854775808 ≤ (numP s i k).2.2 ∧ (numP s i k).2.2 ≤ 9223372036854775807 := by
  unfold numP
  by_cases hk : k ≠ 0
  · rw [if_pos hk]; exact ⟨by simp, by simp⟩
  · rw [if_neg hk]
    by_cases hst : stB s i 45 = true
    · rw [if_pos hst]
      by_cases hz : stB s (i + 1) 48 = true
      · rw [if_pos hz]; exact ⟨by simp, by simp⟩
      · rw [if_neg hz]
        have := (dig_le s (i + 1) 0 (maxInt + 1) (stB_lt hst)).2
        have hm : maxInt = 9223372036854775807 := rfl
        exact ⟨by simp only; omega, by simp only; omega⟩
    · rw [if_neg hst]
      have := (dig_le s i 0 maxInt hi).2
      have hm : maxInt = 9223372036854775807 := rfl
      exact ⟨by simp only; omega, by simp only; omega⟩
theorem intP_bd (s : ByteArray) (i k : Nat) (hi : i ≤ s.size) : -9223372036854775808 ≤ (intP s i k).2.2 ∧ (intP s i k).2.2 ≤ 9223372036854775807 := by
  have h := numP_bd s (signA s i k 105) (signE s i k 105) (signA_le _ _ _ _ hi)
  show -9223372036854775808 ≤ (if signE s (intP1 s i k).1 (intP1 s i k).2.1 59 ≠ 0 then 0 else (intP1 s i k).2.2) ∧ (if signE s (intP1 s i k).1 (intP1 s i k).2.1 59 ≠ 0 then 0 else (intP1 s i k).2.2) ≤ 9223372036854775807
  split
  · exact ⟨by omega, by omega⟩
  · exact h
theorem done_ok {s : ByteArray} {i k : Nat} (hi : i ≤ s.size) (h : doneE s i 0 k = 0) : k = 0 ∧ i = s.size := by
  unfold doneE at h
  by_cases hk : k ≠ 0
  · rw [if_pos hk] at h; omega
  · rw [if_neg hk] at h
    by_cases h2 : i < s.size ∨ 0 < 0
    · rw [if_pos h2] at h; omega
    · exact ⟨by omega, by omega⟩
theorem txP_le (s : ByteArray) (i k most : Nat) (hi : i ≤ s.size) : (txP s i k most).1 ≤ s.size := by
  have ha : txA2 s (dig s i k maxInt) most ≤ s.size := signA_le _ _ _ _ (dig_le s i k maxInt hi).1
  unfold txP
  by_cases h : txE3 s (dig s i k maxInt) most ≠ 0
  · rw [if_pos h]; exact ha
  · rw [if_neg h]
    have h2 : txE3 s (dig s i k maxInt) most = 0 := by omega
    unfold txE3 at h2
    by_cases h3 : txE2 s (dig s i k maxInt) most ≠ 0
    · rw [if_pos h3] at h2; exact absurd h2 h3
    · rw [if_neg h3] at h2
      by_cases h4 : s.size - txA2 s (dig s i k maxInt) most < (dig s i k maxInt).2.2
      · rw [if_pos h4] at h2; omega
      · simp only; omega
theorem tab_at {B : Nat} {w w1 : World} (htab : Lib.TabBelow Tryz.prog B w "internal/strconv.uint64pow10" .u64 Lib.pow10Tab) (hb : Below B w w1) (hB : B ≤ w1.heap.size) : Lib.TabBelow Tryz.prog w1.heap.size w1 "internal/strconv.uint64pow10" .u64 Lib.pow10Tab :=
  fun w' h' => htab w' (hb.trans (h'.mono hB))

theorem read_post (s : ByteArray) (w : World) :
    Calls Tryz.prog 31 #[.string s] w fun e w' => ∃ b, e = .returned (.pointer (some ⟨b, 0, none⟩)) ∧ w.heap.size ≤ b ∧ Rd w' b s 0 0 0 ∧ Below w.heap.size w w' :=
  (read_any s w).mono fun e w' ⟨h1, h2⟩ => ⟨_, h1, Nat.le_refl _, by rw [h2]; exact Rd.new s w _, by rw [h2]; exact (Below.refl _ _).alloc (Nat.le_refl _) _⟩

end Go.Proofs.YtjlkdglbnfifeaaGreatDoor.Pk
