/-
  CONTRACTS of the Reader's Open, Close, More: what each answers, where the Reader stands behind it, which error it bears.
-/
import Derived.Test.YtjnhaglcigpknaaDoorPkRdText
namespace Go.Proofs.YtjnhaglcigpknaaDoor
open Go.RowKit

def opK (j k : Nat) : Nat := if k ≠ 0 then k else if j = 60 then 14 else 0
def opA (s : ByteArray) (i j k : Nat) : Nat := signA s i (opK j k) 40
def opE (s : ByteArray) (i j k : Nat) : Nat := signE s i (opK j k) 40
def opJ (s : ByteArray) (i j k : Nat) : Nat := if opE s i j k ≠ 0 then j else j + 1
def clK (j k : Nat) : Nat := if k ≠ 0 then k else if j = 0 then 3 else 0
def clA (s : ByteArray) (i j k : Nat) : Nat := signA s i (clK j k) 41
def clE (s : ByteArray) (i j k : Nat) : Nat := signE s i (clK j k) 41
def clJ (s : ByteArray) (i j k : Nat) : Nat := if clE s i j k ≠ 0 then j else j - 1
def moreB (s : ByteArray) (i k : Nat) : Bool := k == 0 && decide (i < s.size) && !stB s i 41
theorem sign_k {s : ByteArray} {i k c : Nat} (h : signE s i k c = 0) : k = 0 := by
  by_cases hk : k ≠ 0
  · unfold signE at h; rw [if_pos hk] at h; omega
  · omega
theorem opJ_le (s : ByteArray) (i j k : Nat) (hj : j ≤ 60) : opJ s i j k ≤ 60 := by
  unfold opJ
  by_cases h : opE s i j k ≠ 0
  · rw [if_pos h]; exact hj
  · rw [if_neg h]
    have h2 := sign_k (show signE s i (opK j k) 40 = 0 from by unfold opE at h; omega)
    unfold opK at h2
    by_cases hk : k ≠ 0
    · rw [if_pos hk] at h2; omega
    · rw [if_neg hk] at h2
      by_cases h6 : j = 60
      · rw [if_pos h6] at h2; omega
      · omega
theorem clJ_le (s : ByteArray) (i j k : Nat) (hj : j ≤ 60) : clJ s i j k ≤ 60 := by unfold clJ; split <;> omega
theorem opA_le (s : ByteArray) (i j k : Nat) (hi : i ≤ s.size) : opA s i j k ≤ s.size := signA_le _ _ _ _ hi
theorem clA_le (s : ByteArray) (i j k : Nat) (hi : i ≤ s.size) : clA s i j k ≤ s.size := signA_le _ _ _ _ hi

set_option maxHeartbeats 2000000 in
theorem ropen_any (b : Nat) (s : ByteArray) (i j k : Nat) (w : World) (h : Rd w b s i j k) (hi : i ≤ s.size) (hj : j ≤ 60) (hs1 : s.size ≤ maxLen) :
    Calls Tryd.prog 22 #[.pointer (some ⟨b, 0, none⟩)] w fun e w' => e = .returned (.tuple #[]) ∧ RdPost b s (opA s i j k) (opJ s i j k) (opE s i j k) w w' := by
  have D := Lib.hid (fun w h => sign_any b s i j (opK j k) 40 w h hi hs1)
  change Hid (∀ w, Rd w b s i j (opK j k) → Calls _ _ _ w fun e w' => e = .returned (.tuple #[]) ∧ RdPost b s (opA s i j k) j (opE s i j k) w w') at D
  unfold opJ
  have hke : opE s i j k = 0 → opK j k = 0 := fun h => sign_k h
  generalize opA s i j k = A at *
  generalize opE s i j k = E at *
  have h1 := h
  obtain ⟨hs, ha, ho, he, f1, f2, f3⟩ := h
  by_cases hk : k ≠ 0
  · have e1 : opK j k = k := by unfold opK; rw [if_pos hk]
    rw [e1] at D hke
    have hE : E ≠ 0 := fun h => hk (hke h)
    rw [if_pos hE]
    have k1 : ((k : Int) == 0) = false := by rw [Bool.eq_false_iff]; simp; omega
    have k2 : ((E : Int) == 0) = false := by rw [Bool.eq_false_iff]; simp; omega
    clear hke e1 hk hE
    go_enter Tryd.func22, Tryd.ntmps22
    go_wp2_with fail
    refine (D.out _ h1).mono ?_
    rintro e w1 ⟨rfl, hr, o1⟩
    clear hs ha ho he f1 f2 f3
    have hr' := hr
    obtain ⟨hs, ha, ho, he, f1, f2, f3⟩ := hr'
    go_wp2_with fail
    go_end0
    exact ⟨rfl, hr, o1⟩
  · obtain rfl : k = 0 := by omega
    by_cases h6 : j = 60
    · have e1 : opK j 0 = 14 := by unfold opK; rw [if_neg (by simp), if_pos h6]
      rw [e1] at D hke
      have hE : E ≠ 0 := fun h => by have := hke h; omega
      rw [if_pos hE]
      have k2 : ((E : Int) == 0) = false := by rw [Bool.eq_false_iff]; simp; omega
      subst h6
      clear hke e1 hk hE
      go_enter Tryd.func22, Tryd.ntmps22
      go_wp2_with fail
      refine (D.out _ (h1.setE 14)).mono ?_
      rintro e w1 ⟨rfl, hr, o1⟩
      clear hs ha ho he f1 f2 f3
      have hr' := hr
      obtain ⟨hs, ha, ho, he, f1, f2, f3⟩ := hr'
      go_wp2_with fail
      go_end0
      exact ⟨rfl, hr, ((Only.refl _ _).setCell 3 _).trans o1⟩
    · have e1 : opK j 0 = 0 := by unfold opK; rw [if_neg (by simp), if_neg h6]
      rw [e1] at D
      have k3 : ((j : Int) == 60) = false := by rw [Bool.eq_false_iff]; simp; omega
      clear hke e1 hk h6
      by_cases hE : E ≠ 0
      · rw [if_pos hE]
        have k2 : ((E : Int) == 0) = false := by rw [Bool.eq_false_iff]; simp; omega
        clear hE
        go_enter Tryd.func22, Tryd.ntmps22
        go_wp2_with fail
        refine (D.out _ h1).mono ?_
        rintro e w1 ⟨rfl, hr, o1⟩
        clear hs ha ho he f1 f2 f3
        have hr' := hr
        obtain ⟨hs, ha, ho, he, f1, f2, f3⟩ := hr'
        go_wp2_with fail
        go_end0
        exact ⟨rfl, hr, o1⟩
      · rw [if_neg hE]
        obtain rfl : E = 0 := by omega
        clear hE
        go_enter Tryd.func22, Tryd.ntmps22
        go_wp2_with fail
        refine (D.out _ h1).mono ?_
        rintro e w1 ⟨rfl, hr, o1⟩
        clear hs ha ho he f1 f2 f3
        have hr' := hr
        obtain ⟨hs, ha, ho, he, f1, f2, f3⟩ := hr'
        go_wp2_with fail
        go_end0
        exact ⟨rfl, hr.setO (j + 1), o1.setCell 2 _⟩

set_option maxHeartbeats 2000000 in
theorem rclose_any (b : Nat) (s : ByteArray) (i j k : Nat) (w : World) (h : Rd w b s i j k) (hi : i ≤ s.size) (hj : j ≤ 60) (hs1 : s.size ≤ maxLen) :
    Calls Tryd.prog 25 #[.pointer (some ⟨b, 0, none⟩)] w fun e w' => e = .returned (.tuple #[]) ∧ RdPost b s (clA s i j k) (clJ s i j k) (clE s i j k) w w' := by
  have D := Lib.hid (fun w h => sign_any b s i j (clK j k) 41 w h hi hs1)
  change Hid (∀ w, Rd w b s i j (clK j k) → Calls _ _ _ w fun e w' => e = .returned (.tuple #[]) ∧ RdPost b s (clA s i j k) j (clE s i j k) w w') at D
  unfold clJ
  have hke : clE s i j k = 0 → clK j k = 0 := fun h => sign_k h
  generalize clA s i j k = A at *
  generalize clE s i j k = E at *
  have h1 := h
  obtain ⟨hs, ha, ho, he, f1, f2, f3⟩ := h
  by_cases hk : k ≠ 0
  · have e1 : clK j k = k := by unfold clK; rw [if_pos hk]
    rw [e1] at D hke
    have hE : E ≠ 0 := fun h => hk (hke h)
    rw [if_pos hE]
    have k1 : ((k : Int) == 0) = false := by rw [Bool.eq_false_iff]; simp; omega
    have k2 : ((E : Int) == 0) = false := by rw [Bool.eq_false_iff]; simp; omega
    clear hke e1 hk hE
    go_enter Tryd.func25, Tryd.ntmps25
    go_wp2_with fail
    refine (D.out _ h1).mono ?_
    rintro e w1 ⟨rfl, hr, o1⟩
    clear hs ha ho he f1 f2 f3
    have hr' := hr
    obtain ⟨hs, ha, ho, he, f1, f2, f3⟩ := hr'
    go_wp2_with fail
    go_end0
    exact ⟨rfl, hr, o1⟩
  · obtain rfl : k = 0 := by omega
    by_cases h6 : j = 0
    · have e1 : clK j 0 = 3 := by unfold clK; rw [if_neg (by simp), if_pos h6]
      rw [e1] at D hke
      have hE : E ≠ 0 := fun h => by have := hke h; omega
      rw [if_pos hE]
      have k2 : ((E : Int) == 0) = false := by rw [Bool.eq_false_iff]; simp; omega
      subst h6
      clear hke e1 hk hE
      go_enter Tryd.func25, Tryd.ntmps25
      go_wp2_with fail
      refine (D.out _ (h1.setE 3)).mono ?_
      rintro e w1 ⟨rfl, hr, o1⟩
      clear hs ha ho he f1 f2 f3
      have hr' := hr
      obtain ⟨hs, ha, ho, he, f1, f2, f3⟩ := hr'
      go_wp2_with fail
      go_end0
      exact ⟨rfl, hr, ((Only.refl _ _).setCell 3 _).trans o1⟩
    · have e1 : clK j 0 = 0 := by unfold clK; rw [if_neg (by simp), if_neg h6]
      rw [e1] at D
      have k3 : ((j : Int) == 0) = false := by rw [Bool.eq_false_iff]; simp; omega
      have k4 : 1 ≤ (j : Int) := by omega
      clear hke e1 hk
      by_cases hE : E ≠ 0
      · rw [if_pos hE]
        have k2 : ((E : Int) == 0) = false := by rw [Bool.eq_false_iff]; simp; omega
        clear hE h6
        go_enter Tryd.func25, Tryd.ntmps25
        go_wp2_with fail
        refine (D.out _ h1).mono ?_
        rintro e w1 ⟨rfl, hr, o1⟩
        clear hs ha ho he f1 f2 f3
        have hr' := hr
        obtain ⟨hs, ha, ho, he, f1, f2, f3⟩ := hr'
        go_wp2_with fail
        go_end0
        exact ⟨rfl, hr, o1⟩
      · rw [if_neg hE]
        obtain rfl : E = 0 := by omega
        have hj1 : ((j - 1 : Nat) : Int) = (j : Int) - 1 := by omega
        have HJ := Lib.hid hj1
        clear hE h6 hj1
        go_enter Tryd.func25, Tryd.ntmps25
        go_wp2_with fail
        refine (D.out _ h1).mono ?_
        rintro e w1 ⟨rfl, hr, o1⟩
        clear hs ha ho he f1 f2 f3
        have hr' := hr
        obtain ⟨hs, ha, ho, he, f1, f2, f3⟩ := hr'
        go_wp2_with fail
        go_end0
        have hq := hr.setO (j - 1)
        rw [HJ.out] at hq
        exact ⟨rfl, hq, o1.setCell 2 _⟩

set_option maxHeartbeats 2000000 in
theorem more_any (b : Nat) (s : ByteArray) (i j k : Nat) (w : World) (h : Rd w b s i j k) (hi : i ≤ s.size) (hs1 : s.size ≤ maxLen) :
    Calls Tryd.prog 23 #[.pointer (some ⟨b, 0, none⟩)] w fun e w' => e = .returned (.bool (moreB s i k)) ∧ ∃ n, w' = w.drewN n := by
  have h1 := h
  obtain ⟨hs, ha, ho, he, f1, f2, f3⟩ := h
  have D := Lib.hid (fun n => stands_any b s i j k 41 (w.drewN n) h1.drewN hi hs1)
  have hs2 := hs1
  unfold maxLen at hs2
  by_cases hk : k ≠ 0
  · have e1 : moreB s i k = false := by unfold moreB; simp [hk]
    rw [e1]
    have k1 : ((k : Int) == 0) = false := by rw [Bool.eq_false_iff]; simp; omega
    clear hk e1
    go_enter Tryd.func23, Tryd.ntmps23
    go_wp2_with fail
    go_quiet (fail)
    go_wp2_with fail
    go_ret
    exact ⟨rfl, nq, rfl⟩
  · obtain rfl : k = 0 := by omega
    by_cases hlt : i < s.size
    · have e1 : moreB s i 0 = !stB s i 41 := by unfold moreB; simp [hlt]
      rw [e1]
      have k1 : (i : Int) < (s.size : Int) := by omega
      clear hk e1
      go_enter Tryd.func23, Tryd.ntmps23
      go_wp2_with fail
      go_quiet ((go_at_call 38; exact Calls.quiet_of (D.out _)))
      go_wp2_with fail
      go_ret
      exact ⟨rfl, nq, rfl⟩
    · have e1 : moreB s i 0 = false := by unfold moreB; simp [hlt]
      rw [e1]
      obtain rfl : i = s.size := by omega
      have k1 : decide ((s.size : Int) < (s.size : Int)) = false := by simp
      clear hk e1
      go_enter Tryd.func23, Tryd.ntmps23
      go_wp2_with fail
      go_quiet (fail)
      go_wp2_with fail
      go_ret
      exact ⟨rfl, nq, rfl⟩
end Go.Proofs.YtjnhaglcigpknaaDoor
