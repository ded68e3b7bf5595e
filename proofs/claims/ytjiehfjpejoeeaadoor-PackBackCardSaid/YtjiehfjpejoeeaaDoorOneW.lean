/-
  THE WALK of the law PackOne: whatever the text, it returns true and writes to nothing that was there, where the library's table of powers of ten is as its text lays it.
-/
import Derived.Test.YtjiehfjpejoeeaaDoorOneM
namespace Go.Proofs.YtjiehfjpejoeeaaDoor
open Go.RowKit

/-- At most k bytes of s. -/
def cutB (s : ByteArray) (k : Nat) : ByteArray := if k < s.size then s.extract 0 k else s
theorem cutB_size (s : ByteArray) (k : Nat) : (cutB s k).size ≤ k := by
  unfold cutB; split
  · simp; omega
  · omega
set_option maxHeartbeats 400000 in
theorem cut_any (s : ByteArray) (k : Nat) (w : World) (_hs : s.size ≤ maxLen) (_hk : k ≤ 100000) :
    Calls Tryd.prog 15 #[.string s, .int .i64 k] w fun e w' => e = .returned (.string (cutB s k)) ∧ w = w' := by
  unfold maxLen at _hs
  by_cases h : k < s.size
  · have e : cutB s k = s.extract 0 k := by unfold cutB; rw [if_pos h]
    rw [e]
    go_enter Tryd.func15, Tryd.ntmps15
    go_wp2
    go_ret
    exact ⟨rfl, rfl⟩
  · have e : cutB s k = s := by unfold cutB; rw [if_neg h]
    rw [e]
    go_enter Tryd.func15, Tryd.ntmps15
    go_wp2
    go_ret
    exact ⟨rfl, rfl⟩

theorem numP_bd (s : ByteArray) (i k : Nat) (hi : i ≤ s.size) : -9223372036854775808 ≤ (numP s i k).2.2 ∧ (numP s i k).2.2 ≤ 9223372036854775807 := by
  unfold numP
  by_cases hk : k ≠ 0
  · rw [if_pos hk]; exact ⟨by simp, by simp⟩
  · rw [if_neg hk]
    by_cases hst : stB s i 45 = true
    · rw [if_pos hst]
      by_cases hz : stB s (i + 1) 48 = true
      · rw [if_pos hz]; exact ⟨by simp, by simp⟩
      · rw [if_neg hz]
        have := (dig_le s (i + 1) 0 (maxInt + 1) (stB_lt hst)).2
        have hm : maxInt = 9223372036854775807 := rfl
        exact ⟨by simp only; omega, by simp only; omega⟩
    · rw [if_neg hst]
      have := (dig_le s i 0 maxInt hi).2
      have hm : maxInt = 9223372036854775807 := rfl
      exact ⟨by simp only; omega, by simp only; omega⟩
theorem intP_bd (s : ByteArray) (i k : Nat) (hi : i ≤ s.size) : -9223372036854775808 ≤ (intP s i k).2.2 ∧ (intP s i k).2.2 ≤ 9223372036854775807 := by
  have h := numP_bd s (signA s i k 105) (signE s i k 105) (signA_le _ _ _ _ hi)
  show -9223372036854775808 ≤ (if signE s (intP1 s i k).1 (intP1 s i k).2.1 59 ≠ 0 then 0 else (intP1 s i k).2.2) ∧ (if signE s (intP1 s i k).1 (intP1 s i k).2.1 59 ≠ 0 then 0 else (intP1 s i k).2.2) ≤ 9223372036854775807
  split
  · exact ⟨by omega, by omega⟩
  · exact h
theorem done_ok {s : ByteArray} {i k : Nat} (hi : i ≤ s.size) (h : doneE s i 0 k = 0) : k = 0 ∧ i = s.size := by
  unfold doneE at h
  by_cases hk : k ≠ 0
  · rw [if_pos hk] at h; omega
  · rw [if_neg hk] at h
    by_cases h2 : i < s.size ∨ 0 < 0
    · rw [if_pos h2] at h; omega
    · exact ⟨by omega, by omega⟩
theorem txP_le (s : ByteArray) (i k most : Nat) (hi : i ≤ s.size) : (txP s i k most).1 ≤ s.size := by
  have ha : txA2 s (dig s i k maxInt) most ≤ s.size := signA_le _ _ _ _ (dig_le s i k maxInt hi).1
  unfold txP
  by_cases h : txE3 s (dig s i k maxInt) most ≠ 0
  · rw [if_pos h]; exact ha
  · rw [if_neg h]
    have h2 : txE3 s (dig s i k maxInt) most = 0 := by omega
    unfold txE3 at h2
    by_cases h3 : txE2 s (dig s i k maxInt) most ≠ 0
    · rw [if_pos h3] at h2; exact absurd h2 h3
    · rw [if_neg h3] at h2
      by_cases h4 : s.size - txA2 s (dig s i k maxInt) most < (dig s i k maxInt).2.2
      · rw [if_pos h4] at h2; omega
      · simp only; omega
theorem tab_at {B : Nat} {w w1 : World} (htab : Lib.TabBelow Tryd.prog B w "internal/strconv.uint64pow10" .u64 Lib.pow10Tab) (hb : Below B w w1) (hB : B ≤ w1.heap.size) : Lib.TabBelow Tryd.prog w1.heap.size w1 "internal/strconv.uint64pow10" .u64 Lib.pow10Tab :=
  fun w' h' => htab w' (hb.trans (h'.mono hB))

theorem read_post (s : ByteArray) (w : World) :
    Calls Tryd.prog 20 #[.string s] w fun e w' => ∃ b, e = .returned (.pointer (some ⟨b, 0, none⟩)) ∧ w.heap.size ≤ b ∧ Rd w' b s 0 0 0 ∧ Below w.heap.size w w' :=
  (read_any s w).mono fun e w' ⟨h1, h2⟩ => ⟨_, h1, Nat.le_refl _, by rw [h2]; exact Rd.new s w _, by rw [h2]; exact (Below.refl _ _).alloc (Nat.le_refl _) _⟩

set_option maxHeartbeats 2000000 in
theorem one_walk (a0 : ByteArray) (w0 : a0.size ≤ maxLen) (w : World) (htab : Lib.TabBelow Tryd.prog w.heap.size w "internal/strconv.uint64pow10" .u64 Lib.pow10Tab) :
    Calls Tryd.prog 6 #[.string a0] w fun e w' => e = .returned (.bool true) ∧ Below w.heap.size w w' := by
  have hss := cutB_size a0 100
  have CT := Lib.hid (fun w => cut_any a0 100 w w0 (by omega))
  generalize cutB a0 100 = s at *
  have hsm : s.size ≤ maxLen := by unfold maxLen; omega
  have I := Lib.hid (fun b w h => int_any b s 0 0 0 w h (Nat.zero_le _) hsm)
  have hil := intP_le s 0 0 (Nat.zero_le _)
  have hib := intP_bd s 0 0 (Nat.zero_le _)
  have hi1 := int_one s
  have T := Lib.hid (fun b w h => Text_any b s 0 0 0 100 w h (Nat.zero_le _) (by omega))
  have htl := txP_le s 0 0 100 (Nat.zero_le _)
  have htz := txP_size s 0 0 100
  have ht1 := text_one s 100
  generalize intP s 0 0 = N at *
  generalize txP s 0 0 100 = X at *
  obtain ⟨p, q, n⟩ := N
  obtain ⟨p2, q2, t⟩ := X
  simp only at I hil hib hi1 T htl htz ht1
  have D1 := Lib.hid (fun b w h => done_any b s p 0 q w h hil hsm)
  have D2 := Lib.hid (fun b w h => done_any b s p2 0 q2 w h htl hsm)
  have F1 : doneE s p 0 q = 0 → (s.toList == (⟨(intL n).toArray⟩ : ByteArray).toList) = true := fun h => by
    obtain ⟨h1, h2⟩ := done_ok hil h
    rw [Lib.toList_data, Lib.toList_data, hi1 h1 h2]; simp
  have F2 : doneE s p2 0 q2 = 0 → (s.toList == (⟨(textL t.data.toList).toArray⟩ : ByteArray).toList) = true := fun h => by
    obtain ⟨h1, h2⟩ := done_ok htl h
    rw [Lib.toList_data, Lib.toList_data, ht1 h1 h2]; simp
  have RI := Lib.hid (fun w => refint_any n w hib.1 hib.2)
  have RT := Lib.hid (fun w => reftext_any t w (by omega))
  have HTAB := Lib.hid htab
  clear hi1 ht1 hib htab
  generalize (⟨(intL n).toArray⟩ : ByteArray) = si at *
  generalize (⟨(textL t.data.toList).toArray⟩ : ByteArray) = st at *
  generalize doneE s p 0 q = e1 at *
  generalize doneE s p2 0 q2 = e2 at *
  obtain ⟨z1, hz1, g1⟩ : ∃ z : Bool, ((e1 : Int) == 0) = z ∧ (z = true → (s.toList == si.toList) = true) := ⟨_, rfl, fun h => F1 (by simpa using h)⟩
  obtain ⟨z2, hz2, g2⟩ : ∃ z : Bool, ((e2 : Int) != 0) = z ∧ (z = false → (s.toList == st.toList) = true) := ⟨_, rfl, fun h => F2 (by simpa using h)⟩
  clear F1 F2
  cases z1 <;> cases z2
  all_goals
    first
      | (have g1' := g1 rfl; clear g1)
      | clear g1
    first
      | (have g2' := g2 rfl; clear g2)
      | clear g2
    go_enter Tryd.func6, Tryd.ntmps6
    go_wp2_with fail
    refine (CT.out _).mono ?_
    rintro e w' ⟨rfl, rfl⟩
    go_wp2_with fail
    refine (read_any _ _).mono ?_
    rintro e w1 ⟨rfl, rfl⟩
    have hr := Rd.new s w 63
    have hF1 : Below w.heap.size w (w.alloc (.cells #[.string s, .int .i64 0, .int .i64 0, .int .i64 0] 63)) := (Below.refl _ _).alloc (Nat.le_refl _) _
    go_wp2_with fail
    refine (I.out _ _ hr).mono ?_
    rintro e w2 ⟨rfl, hr2, o2⟩
    have hF2 := hF1.trans (o2.below (Nat.le_refl _) hF1.size)
    clear hr o2 hF1
    go_wp2_with fail
    refine (D1.out _ _ hr2).mono ?_
    rintro e w3 ⟨rfl, hr3, o3⟩
    have hF3 := hF2.trans (o3.below (Nat.le_refl _) hF2.size)
    clear hr2 o3 hF2
    go_wp2_with fail
    try
      (go_at_call 26
       refine (RI.out _).mono ?_
       rintro e wi ⟨rfl, hbi⟩
       replace hF3 := hF3.trans (hbi.mono hF3.size)
       clear hbi
       go_wp2_with fail)
    refine (read_post _ _).mono ?_
    rintro e w4 ⟨rb, rfl, hrb, hr4, hb4⟩
    have hF4 := hF3.trans (hb4.mono hF3.size)
    have hle := Nat.le_trans hF3.size hrb
    clear hr3 hb4 hrb
    go_wp2_with fail
    refine (T.out _ _ hr4).mono ?_
    rintro e w5 ⟨rfl, hr5, o5⟩
    have hF5 := hF4.trans (o5.below hle hF4.size)
    clear hr4 o5 hF4 hF3
    go_wp2_with fail
    refine (awake_any _ (tab_at HTAB.out hF5 hF5.size)).mono ?_
    rintro e w6 ⟨rfl, hb6⟩
    have hr6 := hr5.below hb6 hr5.lt
    have hF6 := hF5.trans (hb6.mono hF5.size)
    clear hr5 hb6 hF5
    go_wp2_with fail
    refine (D2.out _ _ hr6).mono ?_
    rintro e w7 ⟨rfl, hr7, o7⟩
    have hF7 := hF6.trans (o7.below hle hF6.size)
    clear hr6 o7 hF6
    go_wp2_with fail
    try
      (go_at_call 27
       refine (RT.out _).mono ?_
       rintro e wi ⟨rfl, hbi⟩
       replace hF7 := hF7.trans (hbi.mono hF7.size)
       clear hbi
       go_wp2_with fail)
    go_ret
    exact ⟨rfl, hF7⟩
end Go.Proofs.YtjiehfjpejoeeaaDoor
