/-
  MATHEMATICS of the reference's reader (scriberef01): its digits beside the program's.
-/
import Derived.Test.YtbebkchfmebcmaaDoorCur
namespace Go.Proofs.YtbebkchfmebcmaaDoor
open Go.RowKit

/-- What the reference's digits does from i on, n being the number so far: the place, the error, the number. -/
def rdP (s : ByteArray) (first : Nat) : Nat → Nat → Nat → Nat × Nat × Nat
  | 0, i, _ => (i, 3, 0)
  | f + 1, i, n =>
    if dgB s i = true then
      if i - first = 19 ∨ (i - first = 1 ∧ n = 0) then (i, 3, 0) else rdP s first f (i + 1) (n * 10 + dgV s i)
    else if s.size ≤ i then (i, 2, 0) else if i = first then (i, 3, n) else (i, 0, n)
def rd (s : ByteArray) (i k : Nat) : Nat × Nat × Nat := if k ≠ 0 then (i, k, 0) else rdP s i (s.size - i + 1) i 0

theorem rdP_le (s : ByteArray) (first : Nat) : ∀ f i n, i ≤ s.size → (rdP s first f i n).1 ≤ s.size := by
  intro f
  induction f with
  | zero => intro i n hi; exact hi
  | succ f ih =>
    intro i n hi
    unfold rdP
    by_cases h : dgB s i = true
    · rw [if_pos h]
      by_cases h2 : i - first = 19 ∨ (i - first = 1 ∧ n = 0)
      · rw [if_pos h2]; exact hi
      · rw [if_neg h2]; exact ih _ _ (dgB_lt h)
    · rw [if_neg h]
      split
      · exact hi
      · split <;> exact hi
theorem rd_le (s : ByteArray) (i k : Nat) (hi : i ≤ s.size) : (rd s i k).1 ≤ s.size := by
  unfold rd
  split
  · exact hi
  · exact rdP_le _ _ _ _ _ hi
theorem rdP_dig (s : ByteArray) (first most : Nat) : ∀ f i n, i ≤ s.size →
    ((rdP s first f i n).2.1 = 0 → digP s first most f i n = if most < (rdP s first f i n).2.2 then ((rdP s first f i n).1, 3, 0) else ((rdP s first f i n).1, 0, (rdP s first f i n).2.2)) ∧
    ((rdP s first f i n).2.1 ≠ 0 → (digP s first most f i n).2.1 ≠ 0 ∨ (digP s first most f i n).1 = s.size) := by
  intro f
  induction f with
  | zero =>
    intro i n _
    refine ⟨fun h => ?_, fun _ => Or.inl ?_⟩
    · simp [rdP] at h
    · simp [digP]
  | succ f ih =>
    intro i n hi
    rw [rdP, digP]
    by_cases h : dgB s i = true
    · rw [if_pos h, if_pos h]
      by_cases h2 : i - first = 19 ∨ (i - first = 1 ∧ n = 0)
      · rw [if_pos h2, if_pos h2]
        exact ⟨fun h => by simp at h, fun _ => Or.inl (by simp)⟩
      · rw [if_neg h2, if_neg h2]
        exact ih _ _ (dgB_lt h)
    · rw [if_neg h, if_neg h]
      by_cases h3 : s.size ≤ i
      · rw [if_pos h3]
        refine ⟨fun h => by simp at h, fun _ => ?_⟩
        split
        · left; simp only [refE]; split <;> omega
        · split
          · left; simp
          · right; simp only; omega
      · rw [if_neg h3]
        by_cases h4 : i = first
        · rw [if_pos h4, if_pos h4]
          refine ⟨fun h => by simp at h, fun _ => Or.inl ?_⟩
          simp only [refE]; split <;> omega
        · rw [if_neg h4, if_neg h4]
          exact ⟨fun _ => rfl, fun h => absurd rfl h⟩
/-- The reference's digits and the program's, behind no error. -/
theorem rd_dig (s : ByteArray) (i most : Nat) (hi : i ≤ s.size) :
    ((rd s i 0).2.1 = 0 → dig s i 0 most = if most < (rd s i 0).2.2 then ((rd s i 0).1, 3, 0) else ((rd s i 0).1, 0, (rd s i 0).2.2)) ∧ ((rd s i 0).2.1 ≠ 0 → (dig s i 0 most).2.1 ≠ 0 ∨ (dig s i 0 most).1 = s.size) := by
  have := rdP_dig s i most (s.size - i + 1) i 0 hi
  unfold rd dig
  simpa using this
/-- A number that isn't 0 stays so. -/
theorem rdP_pos (s : ByteArray) (first : Nat) : ∀ f i n, 0 < n → (rdP s first f i n).2.1 = 0 → 0 < (rdP s first f i n).2.2 := by
  intro f
  induction f with
  | zero => intro i n _ h; simp [rdP] at h
  | succ f ih =>
    intro i n hn h
    rw [rdP] at h ⊢
    by_cases h1 : dgB s i = true
    · rw [if_pos h1] at h ⊢
      by_cases h2 : i - first = 19 ∨ (i - first = 1 ∧ n = 0)
      · rw [if_pos h2] at h; simp at h
      · rw [if_neg h2] at h ⊢; exact ih _ _ (by omega) h
    · rw [if_neg h1] at h ⊢
      by_cases h3 : s.size ≤ i
      · rw [if_pos h3] at h; simp at h
      · rw [if_neg h3] at h ⊢
        by_cases h4 : i = first
        · rw [if_pos h4] at h; simp at h
        · rw [if_neg h4]; exact hn
/-- It is 0 just where a 0 stands first. -/
theorem rd_zero (s : ByteArray) (i : Nat) (h : (rd s i 0).2.1 = 0) : (rd s i 0).2.2 = 0 ↔ stB s i 48 = true := by
  have e : rd s i 0 = rdP s i (s.size - i + 1) i 0 := by simp [rd]
  rw [e] at h ⊢
  clear e
  rw [rdP] at h ⊢
  by_cases h1 : dgB s i = true
  · rw [if_pos h1] at h ⊢
    rw [if_neg (by omega)] at h ⊢
    have hlt := dgB_lt h1
    have hd : digB s[i].toNat = true := by unfold dgB at h1; rwa [dif_pos hlt] at h1
    have hr : 48 ≤ s[i].toNat ∧ s[i].toNat ≤ 57 := by simpa [digB] using hd
    have hv : dgV s i = s[i].toNat - 48 := by unfold dgV; rw [dif_pos hlt]
    have hs : stB s i 48 = true ↔ s[i].toNat = 48 := by unfold stB; rw [dif_pos hlt]; simp
    rw [hs]
    by_cases h0 : s[i].toNat = 48
    · refine ⟨fun _ => h0, fun _ => ?_⟩
      have hv0 : (0 : Nat) * 10 + dgV s i = 0 := by omega
      rw [hv0] at h ⊢
      obtain ⟨f, hf⟩ : ∃ f, s.size - i = f + 1 := ⟨s.size - i - 1, by omega⟩
      rw [hf] at h ⊢
      rw [rdP] at h ⊢
      by_cases h2 : dgB s (i + 1) = true
      · rw [if_pos h2, if_pos (Or.inr ⟨by omega, rfl⟩)] at h; simp at h
      · rw [if_neg h2] at h ⊢
        by_cases h3 : s.size ≤ i + 1
        · rw [if_pos h3] at h; simp at h
        · rw [if_neg h3, if_neg (by omega)]
    · refine ⟨fun hz => ?_, fun h => absurd h h0⟩
      have := rdP_pos s i _ (i + 1) (0 * 10 + dgV s i) (by omega) h
      omega
  · rw [if_neg h1] at h
    by_cases h3 : s.size ≤ i
    · rw [if_pos h3] at h; simp at h
    · rw [if_neg h3, if_pos rfl] at h; simp at h

/-- Both fell, or both stand at one place, no error. -/
def Sm2 (p e q k : Nat) : Prop := (e = 0 ∧ k = 0 ∧ p = q) ∨ (e ≠ 0 ∧ k ≠ 0)
/-- ReadInt, behind its letter. -/
def rnP (s : ByteArray) (i : Nat) : Nat × Nat :=
  if stB s i 45 = true then
    ((rd s (i + 1) 0).1, if (rd s (i + 1) 0).2.1 ≠ 0 then (rd s (i + 1) 0).2.1 else if 9223372036854775808 < (rd s (i + 1) 0).2.2 ∨ (rd s (i + 1) 0).2.2 = 0 then 3 else 0)
  else ((rd s i 0).1, if (rd s i 0).2.1 ≠ 0 then (rd s i 0).2.1 else if 9223372036854775807 < (rd s i 0).2.2 then 3 else 0)
def riP (s : ByteArray) (i : Nat) : Nat × Nat :=
  if signE s i 0 105 ≠ 0 then (i, signE s i 0 105) else (signA s (rnP s (i + 1)).1 (rnP s (i + 1)).2 59, signE s (rnP s (i + 1)).1 (rnP s (i + 1)).2 59)
theorem sign_end (s : ByteArray) (k c : Nat) : signE s s.size k c ≠ 0 := by
  unfold signE
  split
  · assumption
  · rw [if_neg]
    · unfold refE; simp
    · intro h
      have := stB_lt h
      omega
theorem sign_sm (s : ByteArray) (c : Nat) {p e q k : Nat} (h : Sm2 p e q k ∨ (e ≠ 0 ∧ q = s.size)) : Sm2 (signA s p e c) (signE s p e c) (signA s q k c) (signE s q k c) := by
  rcases h with (⟨rfl, rfl, rfl⟩ | ⟨h1, h2⟩) | ⟨h1, rfl⟩
  · by_cases hE : signE s p 0 c = 0
    · exact .inl ⟨hE, hE, rfl⟩
    · exact .inr ⟨hE, hE⟩
  · exact .inr ⟨by rw [sign_sticky _ _ _ _ h1]; exact h1, by rw [sign_sticky _ _ _ _ h2]; exact h2⟩
  · exact .inr ⟨by rw [sign_sticky _ _ _ _ h1]; exact h1, sign_end _ _ _⟩
theorem rn_sm (s : ByteArray) (i : Nat) (hi : i ≤ s.size) : Sm2 (rnP s i).1 (rnP s i).2 (numP s i 0).1 (numP s i 0).2.1 ∨ ((rnP s i).2 ≠ 0 ∧ (numP s i 0).1 = s.size) := by
  have hN : numP s i 0 = if stB s i 45 = true then (if stB s (i + 1) 48 = true then (i + 1, 3, 0) else ((dig s (i + 1) 0 (maxInt + 1)).1, (dig s (i + 1) 0 (maxInt + 1)).2.1, -((dig s (i + 1) 0 (maxInt + 1)).2.2 : Int))) else ((dig s i 0 maxInt).1, (dig s i 0 maxInt).2.1, ((dig s i 0 maxInt).2.2 : Int)) := by
    unfold numP; rw [if_neg (by simp)]
  rw [hN]
  unfold rnP
  by_cases h1 : stB s i 45 = true
  · have hlt := stB_lt h1
    rw [if_pos h1, if_pos h1]
    by_cases hE : (rd s (i + 1) 0).2.1 = 0
    · have hz := rd_zero s (i + 1) hE
      have hd := (rd_dig s (i + 1) (maxInt + 1) (by omega)).1 hE
      rw [if_neg (by omega)]
      by_cases h48 : stB s (i + 1) 48 = true
      · rw [if_pos h48]
        left; right
        have := hz.2 h48
        exact ⟨by simp only; rw [if_pos (Or.inr this)]; simp, by simp⟩
      · rw [if_neg h48]
        have hnz : (rd s (i + 1) 0).2.2 ≠ 0 := fun e => h48 (hz.1 e)
        left
        unfold maxInt at hd ⊢
        rw [hd]
        by_cases hm : 9223372036854775808 < (rd s (i + 1) 0).2.2
        · right
          exact ⟨by simp only; rw [if_pos (Or.inl hm)]; simp, by rw [if_pos (by omega)]; simp⟩
        · left
          have hm1 : ¬ 9223372036854775807 + 1 < (rd s (i + 1) 0).2.2 := by omega
          simp only [if_neg hm1]
          exact ⟨by rw [if_neg (by omega)], trivial, trivial⟩
    · rw [if_pos hE]
      by_cases h48 : stB s (i + 1) 48 = true
      · rw [if_pos h48]
        left; right
        exact ⟨hE, by simp⟩
      · rw [if_neg h48]
        rcases (rd_dig s (i + 1) (maxInt + 1) (by omega)).2 hE with h | h
        · exact .inl (.inr ⟨hE, h⟩)
        · exact .inr ⟨hE, h⟩
  · rw [if_neg h1, if_neg h1]
    by_cases hE : (rd s i 0).2.1 = 0
    · have hd := (rd_dig s i maxInt hi).1 hE
      rw [if_neg (by omega)]
      left
      unfold maxInt at hd ⊢
      rw [hd]
      by_cases hm : 9223372036854775807 < (rd s i 0).2.2
      · right
        exact ⟨by simp only; rw [if_pos hm]; simp, by rw [if_pos hm]; simp⟩
      · left
        simp only [if_neg hm]
        exact ⟨trivial, trivial, trivial⟩
    · rw [if_pos hE]
      rcases (rd_dig s i maxInt hi).2 hE with h | h
      · exact .inl (.inr ⟨hE, h⟩)
      · exact .inr ⟨hE, h⟩
theorem ri_sm (s : ByteArray) (i : Nat) (_hi : i ≤ s.size) : Sm2 (riP s i).1 (riP s i).2 (intP s i 0).1 (intP s i 0).2.1 := by
  unfold riP
  by_cases hE : signE s i 0 105 ≠ 0
  · rw [if_pos hE]
    right
    refine ⟨hE, ?_⟩
    show signE s (numP s (signA s i 0 105) (signE s i 0 105)).1 (numP s (signA s i 0 105) (signE s i 0 105)).2.1 59 ≠ 0
    rw [numP_sticky s _ _ hE, sign_sticky s _ _ 59 hE]
    exact hE
  · rw [if_neg hE]
    have h3 := sign_ok (show signE s i 0 105 = 0 by omega)
    have hlt := stB_lt h3.2.1
    have hI : intP s i 0 = (signA s (numP s (i + 1) 0).1 (numP s (i + 1) 0).2.1 59, signE s (numP s (i + 1) 0).1 (numP s (i + 1) 0).2.1 59, (intP s i 0).2.2) := by
      unfold intP intP1
      rw [h3.2.2, show signE s i 0 105 = 0 by omega]
    rw [hI]
    exact sign_sm s 59 (rn_sm s (i + 1) (by omega))
/-- ReadText of at most so many bytes as there are. -/
def rt1 (s : ByteArray) (i : Nat) : Nat := if (rd s i 0).2.1 ≠ 0 then (rd s i 0).2.1 else if s.size < (rd s i 0).2.2 then 12 else 0
def rtP (s : ByteArray) (i : Nat) : Nat × Nat :=
  if signE s (rd s i 0).1 (rt1 s i) 58 ≠ 0 then (signA s (rd s i 0).1 (rt1 s i) 58, signE s (rd s i 0).1 (rt1 s i) 58)
  else if s.size - signA s (rd s i 0).1 (rt1 s i) 58 < (rd s i 0).2.2 then (signA s (rd s i 0).1 (rt1 s i) 58, 2)
  else (signA s (rd s i 0).1 (rt1 s i) 58 + (rd s i 0).2.2, 0)
theorem rt_sm (s : ByteArray) (i : Nat) (hi : i ≤ s.size) (hz : s.size ≤ 100000) : Sm2 (rtP s i).1 (rtP s i).2 (txP s i 0 s.size).1 (txP s i 0 s.size).2.1 := by
  unfold rtP txP
  by_cases hE : (rd s i 0).2.1 = 0
  · have hd := (rd_dig s i maxInt hi).1 hE
    by_cases hm : maxInt < (rd s i 0).2.2
    · rw [if_pos hm] at hd
      have e1 : rt1 s i = 12 := by unfold rt1; rw [if_neg (by omega), if_pos (by unfold maxInt at hm; omega)]
      have e2 : signE s (rd s i 0).1 12 58 = 12 := sign_sticky _ _ _ _ (by omega)
      have e3 : txE1 (dig s i 0 maxInt) s.size = 3 := by rw [hd]; rfl
      have e4 : txE2 s (dig s i 0 maxInt) s.size = 3 := by unfold txE2; rw [e3]; exact sign_sticky _ _ _ _ (by omega)
      have e5 : txE3 s (dig s i 0 maxInt) s.size = 3 := by unfold txE3; rw [e4]; rfl
      rw [e1, e2, if_pos (by omega), e5, if_pos (by omega)]
      exact .inr ⟨by simp, by simp⟩
    · rw [if_neg hm] at hd
      have e1 : txE1 (dig s i 0 maxInt) s.size = rt1 s i := by
        rw [hd]; unfold txE1 rt1; rw [if_neg (by simp), if_neg (by omega : ¬ (rd s i 0).2.1 ≠ 0)]
      have e2 : txE2 s (dig s i 0 maxInt) s.size = signE s (rd s i 0).1 (rt1 s i) 58 := by unfold txE2; rw [e1, hd]
      have e3 : txA2 s (dig s i 0 maxInt) s.size = signA s (rd s i 0).1 (rt1 s i) 58 := by unfold txA2; rw [e1, hd]
      have e4 : (dig s i 0 maxInt).2.2 = (rd s i 0).2.2 := by rw [hd]
      unfold txE3
      rw [e2, e3, e4]
      by_cases h1 : signE s (rd s i 0).1 (rt1 s i) 58 ≠ 0
      · rw [if_pos h1, if_pos h1, if_pos h1]
        exact .inr ⟨h1, h1⟩
      · rw [if_neg h1, if_neg h1]
        by_cases h2 : s.size - signA s (rd s i 0).1 (rt1 s i) 58 < (rd s i 0).2.2
        · rw [if_pos h2, if_pos h2, if_pos (by omega)]
          exact .inr ⟨by simp, by simp⟩
        · rw [if_neg h2, if_neg h2, if_neg (by omega)]
          exact .inl ⟨rfl, rfl, rfl⟩
  · have e1 : rt1 s i = (rd s i 0).2.1 := by unfold rt1; rw [if_pos hE]
    have e2 : signE s (rd s i 0).1 (rt1 s i) 58 ≠ 0 := by rw [e1, sign_sticky _ _ _ _ hE]; exact hE
    rw [if_pos e2]
    right
    refine ⟨e2, ?_⟩
    have key : txE2 s (dig s i 0 maxInt) s.size ≠ 0 := by
      unfold txE2
      rcases (rd_dig s i maxInt hi).2 hE with h | h
      · have : txE1 (dig s i 0 maxInt) s.size ≠ 0 := by unfold txE1; rw [if_pos h]; exact h
        rw [sign_sticky _ _ _ _ this]; exact this
      · rw [h]; exact sign_end _ _ _
    have k3 : txE3 s (dig s i 0 maxInt) s.size ≠ 0 := by unfold txE3; rw [if_pos key]; exact key
    rw [if_pos k3]
    exact k3
end Go.Proofs.YtbebkchfmebcmaaDoor
