/-
  CONTRACTS of the Reader's number, Int, Done: what each answers, where the Reader stands behind it, which error it bears.
-/
import Derived.Test.YtjnhaglcigpknaaDoorPkRdDigits
namespace Go.Proofs.YtjnhaglcigpknaaDoor
open Go.RowKit

theorem digP_le (s : ByteArray) (first most : Nat) : ∀ f i n, i ≤ s.size → (digP s first most f i n).1 ≤ s.size ∧ (digP s first most f i n).2.2 ≤ most := by
  intro f
  induction f with
  | zero => intro i n hi; exact ⟨hi, Nat.zero_le _⟩
  | succ f ih =>
    intro i n hi
    unfold digP
    by_cases h : dgB s i = true
    · rw [if_pos h]
      by_cases h2 : i - first = 19 ∨ (i - first = 1 ∧ n = 0)
      · rw [if_pos h2]; exact ⟨hi, Nat.zero_le _⟩
      · rw [if_neg h2]; exact ih _ _ (dgB_lt h)
    · rw [if_neg h]
      by_cases h2 : i = first
      · rw [if_pos h2]; exact ⟨hi, Nat.zero_le _⟩
      · rw [if_neg h2]
        by_cases h3 : n > most
        · rw [if_pos h3]; exact ⟨hi, Nat.zero_le _⟩
        · rw [if_neg h3]; exact ⟨hi, Nat.le_of_not_lt h3⟩
theorem dig_le (s : ByteArray) (i k most : Nat) (hi : i ≤ s.size) : (dig s i k most).1 ≤ s.size ∧ (dig s i k most).2.2 ≤ most := by
  unfold dig
  by_cases h : k ≠ 0
  · rw [if_pos h]; exact ⟨hi, Nat.zero_le _⟩
  · rw [if_neg h]; exact digP_le _ _ _ _ _ _ hi
theorem stB_lt {s : ByteArray} {i c : Nat} (h : stB s i c = true) : i < s.size := by
  unfold stB at h
  by_cases hq : i < s.size
  · exact hq
  · rw [dif_neg hq] at h; cases h
theorem signA_le (s : ByteArray) (i k c : Nat) (hi : i ≤ s.size) : signA s i k c ≤ s.size := by
  unfold signA
  by_cases h : k ≠ 0
  · rw [if_pos h]; exact hi
  · rw [if_neg h]
    by_cases h2 : stB s i c = true
    · rw [if_pos h2]; exact stB_lt h2
    · rw [if_neg h2]; exact hi

def maxInt : Nat := 9223372036854775807
/-- What number does: the place, the error, the answer. -/
def numP (s : ByteArray) (i k : Nat) : Nat × Nat × Int :=
  if k ≠ 0 then (i, k, 0)
  else if stB s i 45 = true then
    if stB s (i + 1) 48 = true then (i + 1, 3, 0) else ((dig s (i + 1) 0 (maxInt + 1)).1, (dig s (i + 1) 0 (maxInt + 1)).2.1, -((dig s (i + 1) 0 (maxInt + 1)).2.2 : Int))
  else ((dig s i 0 maxInt).1, (dig s i 0 maxInt).2.1, ((dig s i 0 maxInt).2.2 : Int))
theorem numP_le (s : ByteArray) (i k : Nat) (hi : i ≤ s.size) : (numP s i k).1 ≤ s.size := by
  unfold numP
  by_cases h : k ≠ 0
  · rw [if_pos h]; exact hi
  · rw [if_neg h]
    by_cases h2 : stB s i 45 = true
    · rw [if_pos h2]
      by_cases h3 : stB s (i + 1) 48 = true
      · rw [if_pos h3]; exact stB_lt h2
      · rw [if_neg h3]; exact (dig_le s (i + 1) 0 _ (stB_lt h2)).1
    · rw [if_neg h2]; exact (dig_le s i 0 _ hi).1
/-- 'int(-n)' of an n up to 2^63. -/
theorem neg_int (n : Nat) (h : n ≤ maxInt + 1) : wrap64 (IntKind.u64.wrap (-(n : Int))) = -(n : Int) := by
  have e : ∀ x : Int, IntKind.i64.wrap x = wrap64 x := IntWalk.i64_left
  unfold maxInt at h
  rw [← e, IntKind.wrap_u64, IntKind.wrap_i64]; omega
theorem ret_i64 {a b : Int} (h : a = b) : Ending.returned (.int .i64 a) = .returned (.int .i64 b) := by rw [h]

set_option maxHeartbeats 1000000 in
theorem number_any (b : Nat) (s : ByteArray) (i j k : Nat) (w : World) (h : Rd w b s i j k) (hi : i ≤ s.size) (hs1 : s.size ≤ maxLen) :
    Calls Tryd.prog 66 #[.pointer (some ⟨b, 0, none⟩)] w fun e w' => e = .returned (.int .i64 (numP s i k).2.2) ∧ RdPost b s (numP s i k).1 j (numP s i k).2.1 w w' := by
  have h1 := h
  obtain ⟨hs, ha, ho, he, f1, f2, f3⟩ := h
  have hs2 := hs1
  unfold maxLen at hs2
  by_cases hk : k ≠ 0
  · have hdk : dig s i k maxInt = (i, k, 0) := by unfold dig; rw [if_pos hk]
    have e0 : numP s i k = (i, k, 0) := by unfold numP; rw [if_pos hk]
    rw [e0]
    have hk2 : ((k : Int) != 0) = true := by rw [bne_iff_ne]; omega
    have D := Lib.hid (fun w h => digits_any b s i j k maxInt w h hi hs1 (by unfold maxInt; omega))
    have HD := Lib.hid hdk
    clear hdk e0
    go_enter Tryd.func66, Tryd.ntmps66
    go_wp2_with fail
    refine (D.out _ h1).mono ?_
    rintro e w1 ⟨rfl, hr, hon⟩
    rw [HD.out] at hr ⊢
    go_wp2_with fail
    go_ret
    exact ⟨rfl, hr, hon⟩
  · obtain rfl : k = 0 := by omega
    by_cases hst : stB s i 45 = true
    · have hlt := stB_lt hst
      by_cases hz : stB s (i + 1) 48 = true
      · have e0 : numP s i 0 = (i + 1, 3, 0) := by unfold numP; rw [if_neg (by omega), if_pos hst, if_pos hz]
        rw [e0]
        have S1 := Lib.hid hst
        have S2 := Lib.hid hz
        clear hst hz e0 hk
        go_enter Tryd.func66, Tryd.ntmps66
        go_wp2_with fail
        refine (stands_any b s i j 0 45 _ h1 hi hs1).mono ?_
        rintro e w1 ⟨rfl, n1, rfl⟩
        rw [S1.out]
        have h2 := h1.drewN (n := n1) |>.setA (i + 1)
        go_wp2_with fail
        refine (stands_any b s (i + 1) j 0 48 _ h2 (by omega) hs1).mono ?_
        rintro e w2 ⟨rfl, n2, rfl⟩
        rw [S2.out]
        go_wp2_with fail
        go_ret
        exact ⟨rfl, h2.drewN.setE 3, ((((Only.refl _ _).drewN).setCell 1 _).drewN).setCell 3 _⟩
      · have e0 : numP s i 0 = ((dig s (i + 1) 0 (maxInt + 1)).1, (dig s (i + 1) 0 (maxInt + 1)).2.1, -((dig s (i + 1) 0 (maxInt + 1)).2.2 : Int)) := by unfold numP; rw [if_neg (by omega), if_pos hst, if_neg hz]
        rw [e0]
        have hdv := (dig_le s (i + 1) 0 (maxInt + 1) hlt).2
        have D := Lib.hid (fun w h => digits_any b s (i + 1) j 0 (maxInt + 1) w h hlt hs1 (by unfold maxInt; omega))
        generalize dig s (i + 1) 0 (maxInt + 1) = d at *
        have S1 := Lib.hid hst
        have hz2 : stB s (i + 1) 48 = false := by simpa using hz
        have S2 := Lib.hid hz2
        have NI := Lib.hid (neg_int _ hdv)
        clear hst hz e0 hk hz2 hdv
        go_enter Tryd.func66, Tryd.ntmps66
        go_wp2_with fail
        refine (stands_any b s i j 0 45 _ h1 hi hs1).mono ?_
        rintro e w1 ⟨rfl, n1, rfl⟩
        rw [S1.out]
        have h2 := h1.drewN (n := n1) |>.setA (i + 1)
        go_wp2_with fail
        refine (stands_any b s (i + 1) j 0 48 _ h2 (by omega) hs1).mono ?_
        rintro e w2 ⟨rfl, n2, rfl⟩
        rw [S2.out]
        go_wp2_with fail
        refine (D.out _ h2.drewN).mono ?_
        rintro e w3 ⟨rfl, hr3, hon3⟩
        go_wp2_with fail
        go_ret
        exact ⟨ret_i64 NI.out, hr3, ((((Only.refl _ _).drewN).setCell 1 _).drewN).trans hon3⟩
    · have e0 : numP s i 0 = ((dig s i 0 maxInt).1, (dig s i 0 maxInt).2.1, ((dig s i 0 maxInt).2.2 : Int)) := by unfold numP; rw [if_neg (by omega), if_neg hst]
      rw [e0]
      have hdv := (dig_le s i 0 maxInt hi).2
      have D := Lib.hid (fun w h => digits_any b s i j 0 maxInt w h hi hs1 (by unfold maxInt; omega))
      generalize dig s i 0 maxInt = d at *
      have hst2 : stB s i 45 = false := by simpa using hst
      have S1 := Lib.hid hst2
      have hdv2 : (d.2.2 : Int) ≤ 9223372036854775807 := by unfold maxInt at hdv; omega
      clear hst e0 hk hst2 hdv
      go_enter Tryd.func66, Tryd.ntmps66
      go_wp2_with fail
      refine (stands_any b s i j 0 45 _ h1 hi hs1).mono ?_
      rintro e w1 ⟨rfl, n1, rfl⟩
      rw [S1.out]
      go_wp2_with fail
      refine (D.out _ h1.drewN).mono ?_
      rintro e w3 ⟨rfl, hr3, hon3⟩
      go_wp2_with fail
      go_ret
      exact ⟨rfl, hr3, (Only.refl _ _).drewN.trans hon3⟩

/-- What Int does: the place, the error, the answer. -/
def intP1 (s : ByteArray) (i k : Nat) : Nat × Nat × Int := numP s (signA s i k 105) (signE s i k 105)
def intP (s : ByteArray) (i k : Nat) : Nat × Nat × Int :=
  (signA s (intP1 s i k).1 (intP1 s i k).2.1 59, signE s (intP1 s i k).1 (intP1 s i k).2.1 59, if signE s (intP1 s i k).1 (intP1 s i k).2.1 59 ≠ 0 then 0 else (intP1 s i k).2.2)
theorem intP1_le (s : ByteArray) (i k : Nat) (hi : i ≤ s.size) : (intP1 s i k).1 ≤ s.size := numP_le _ _ _ (signA_le _ _ _ _ hi)
theorem intP_le (s : ByteArray) (i k : Nat) (hi : i ≤ s.size) : (intP s i k).1 ≤ s.size := signA_le _ _ _ _ (intP1_le s i k hi)

set_option maxHeartbeats 1000000 in
theorem rd_int (b : Nat) (s : ByteArray) (i j k : Nat) (w : World) (h : Rd w b s i j k) (hi : i ≤ s.size) (hs1 : s.size ≤ maxLen) :
    Calls Tryd.prog 49 #[.pointer (some ⟨b, 0, none⟩)] w fun e w' => e = .returned (.int .i64 (intP s i k).2.2) ∧ RdPost b s (intP s i k).1 j (intP s i k).2.1 w w' := by
  have D1 := Lib.hid (fun w h => sign_any b s i j k 105 w h hi hs1)
  have D2 := Lib.hid (fun w h => number_any b s (signA s i k 105) j (signE s i k 105) w h (signA_le _ _ _ _ hi) hs1)
  have D3 := Lib.hid (fun w h => sign_any b s (intP1 s i k).1 j (intP1 s i k).2.1 59 w h (intP1_le s i k hi) hs1)
  have e3 : (intP s i k).2.2 = if signE s (intP1 s i k).1 (intP1 s i k).2.1 59 ≠ 0 then 0 else (intP1 s i k).2.2 := rfl
  have e1 : (intP s i k).1 = signA s (intP1 s i k).1 (intP1 s i k).2.1 59 := rfl
  have e2 : (intP s i k).2.1 = signE s (intP1 s i k).1 (intP1 s i k).2.1 59 := rfl
  rw [e3, e1, e2]
  clear e3 e1 e2
  change Hid (∀ w, Rd w b s (signA s i k 105) j (signE s i k 105) → Calls _ _ _ w fun e w' => e = .returned (.int .i64 (intP1 s i k).2.2) ∧ RdPost b s (intP1 s i k).1 j (intP1 s i k).2.1 w w') at D2
  generalize intP1 s i k = N at *
  generalize signA s i k 105 = A1 at *
  generalize signE s i k 105 = E1 at *
  generalize signA s N.1 N.2.1 59 = A3 at *
  generalize signE s N.1 N.2.1 59 = E3 at *
  by_cases hz : E3 ≠ 0
  · rw [if_pos hz]
    have hz2 : ((E3 : Int) != 0) = true := by rw [bne_iff_ne]; omega
    go_enter Tryd.func49, Tryd.ntmps49
    go_wp2_with fail
    refine (D1.out _ h).mono ?_
    rintro e w1 ⟨rfl, h1, o1⟩
    go_wp2_with fail
    refine (D2.out _ h1).mono ?_
    rintro e w2 ⟨rfl, h2, o2⟩
    go_wp2_with fail
    refine (D3.out _ h2).mono ?_
    rintro e w3 ⟨rfl, h3, o3⟩
    have h4 := h3
    obtain ⟨hs, ha, ho, he, f1, f2, f3⟩ := h3
    go_wp2_with fail
    go_ret
    exact ⟨rfl, h4, (o1.trans o2).trans o3⟩
  · obtain rfl : E3 = 0 := by omega
    rw [if_neg hz]
    clear hz
    go_enter Tryd.func49, Tryd.ntmps49
    go_wp2_with fail
    refine (D1.out _ h).mono ?_
    rintro e w1 ⟨rfl, h1, o1⟩
    go_wp2_with fail
    refine (D2.out _ h1).mono ?_
    rintro e w2 ⟨rfl, h2, o2⟩
    go_wp2_with fail
    refine (D3.out _ h2).mono ?_
    rintro e w3 ⟨rfl, h3, o3⟩
    have h4 := h3
    obtain ⟨hs, ha, ho, he, f1, f2, f3⟩ := h3
    go_wp2_with fail
    go_ret
    exact ⟨rfl, h4, (o1.trans o2).trans o3⟩

/-- What Done answers. -/
def doneE (s : ByteArray) (i j k : Nat) : Nat := if k ≠ 0 then k else if i < s.size ∨ 0 < j then 3 else 0
set_option maxHeartbeats 1000000 in
theorem done_any (b : Nat) (s : ByteArray) (i j k : Nat) (w : World) (h : Rd w b s i j k) (hi : i ≤ s.size) (_hs1 : s.size ≤ maxLen) :
    Calls Tryd.prog 9 #[.pointer (some ⟨b, 0, none⟩)] w fun e w' => e = .returned (.int .i64 (doneE s i j k)) ∧ RdPost b s i j (doneE s i j k) w w' := by
  have h1 := h
  obtain ⟨hs, ha, ho, he, f1, f2, f3⟩ := h
  unfold maxLen at _hs1
  by_cases hk : k ≠ 0
  · have e0 : doneE s i j k = k := by unfold doneE; rw [if_pos hk]
    rw [e0]
    have hk2 : ((k : Int) == 0) = false := by rw [Bool.eq_false_iff]; simp; omega
    go_enter Tryd.func9, Tryd.ntmps9
    go_wp2_with fail
    go_quiet (fail)
    go_wp2_with fail
    go_ret
    exact ⟨rfl, h1.drewN, (Only.refl _ _).drewN⟩
  · obtain rfl : k = 0 := by omega
    by_cases hlt : i < s.size
    · have e0 : doneE s i j 0 = 3 := by unfold doneE; rw [if_neg hk, if_pos (Or.inl hlt)]
      rw [e0]
      clear hk
      go_enter Tryd.func9, Tryd.ntmps9
      go_wp2_with fail
      go_quiet (fail)
      go_wp2_with fail
      go_ret
      exact ⟨rfl, h1.drewN.setE 3, (Only.refl _ _).drewN.setCell 3 _⟩
    · obtain rfl : i = s.size := by omega
      by_cases hj : 0 < j
      · have e0 : doneE s s.size j 0 = 3 := by unfold doneE; rw [if_neg hk, if_pos (Or.inr hj)]
        rw [e0]
        clear hk
        have hj2 : (0 : Int) < (j : Int) := by omega
        go_enter Tryd.func9, Tryd.ntmps9
        go_wp2_with fail
        go_quiet (fail)
        go_wp2_with fail
        go_ret
        exact ⟨rfl, h1.drewN.setE 3, (Only.refl _ _).drewN.setCell 3 _⟩
      · obtain rfl : j = 0 := by omega
        have e0 : doneE s s.size 0 0 = 0 := by unfold doneE; rw [if_neg hk, if_neg (by omega)]
        rw [e0]
        clear hk
        go_enter Tryd.func9, Tryd.ntmps9
        go_wp2_with fail
        go_quiet (fail)
        go_wp2_with fail
        go_ret
        exact ⟨rfl, h1.drewN, (Only.refl _ _).drewN⟩
end Go.Proofs.YtjnhaglcigpknaaDoor
