/-
  PLAIN MATHEMATICS for the document's own Open: what its digit by digit reading of the length comes to.
-/
import Derived.Test.YtkoddlfhkgonbaaDoorJOpen
namespace Go.Proofs.YtkoddlfhkgonbaaDoor
open Go.RowKit

def isD (c : UInt8) : Bool := decide (48 ≤ c.toNat ∧ c.toNat ≤ 57)
def valD (l : List UInt8) : Nat := l.foldl (fun a c => 10 * a + c.toNat - 48) 0
theorem valD_snoc (l : List UInt8) (c : UInt8) : valD (l ++ [c]) = 10 * valD l + c.toNat - 48 := by simp [valD]
theorem valD_from (l : List UInt8) : ∀ a, l.all isD = true → l.foldl (fun a c => 10 * a + c.toNat - 48) a < (a + 1) * 10 ^ l.length := by
  induction l with
  | nil => intro a _; simp
  | cons c l ih =>
    intro a h
    rw [List.all_cons, Bool.and_eq_true] at h
    have h2 : 48 ≤ c.toNat ∧ c.toNat ≤ 57 := by simpa [isD] using h.1
    refine Nat.lt_of_lt_of_le (ih _ h.2) ?_
    rw [List.length_cons, Nat.pow_succ, show (a + 1) * (10 ^ l.length * 10) = (10 * a + 10) * 10 ^ l.length by rw [Nat.mul_comm (10 ^ l.length) 10, ← Nat.mul_assoc]; congr 1; omega]
    exact Nat.mul_le_mul_right _ (by show 10 * a + c.toNat - 48 + 1 ≤ 10 * a + 10; omega)
theorem valD_lt (l : List UInt8) (h : l.all isD = true) : valD l < 10 ^ l.length := by
  have := valD_from l 0 h
  simpa [valD] using this
theorem valD_digits (n : Nat) : valD (Lib.decDigits n) = n := by
  induction n using Nat.strongRecOn with
  | ind n ih =>
    have e (d : Nat) (hd : d < 10) : (UInt8.ofNat (48 + d)).toNat = 48 + d := UInt8.toNat_ofNat_of_lt' (by show 48 + d < 256; omega)
    rw [Lib.decDigits]
    split
    · rename_i h
      show 10 * 0 + (UInt8.ofNat (48 + n)).toNat - 48 = n
      rw [e n h]; omega
    · rw [valD_snoc, ih _ (by omega), e _ (Nat.mod_lt _ (by decide))]; omega
theorem digits_short (n k : Nat) (hk : 1 ≤ k) (h : n < 10 ^ k) : (Lib.decDigits n).length ≤ k := by
  induction k generalizing n with
  | zero => omega
  | succ k ih =>
    rw [digits_len]
    split
    · omega
    · have hk0 : 1 ≤ k := by
        rcases Nat.eq_zero_or_pos k with rfl | h0
        · simp at h; omega
        · exact h0
      have := ih (n / 10) hk0 (by rw [Nat.pow_succ] at h; omega)
      omega
theorem numV_len {d : List UInt8} {n : Nat} (h : numV d = some n) : d.length ≤ 19 := by
  obtain ⟨rfl, hn⟩ := numV_some h
  exact digits_short n 19 (by omega) (by
    have : (9223372036854775807 : Nat) < 10 ^ 19 := by decide
    omega)
theorem numV_is (d : List UInt8) : numV d = if d = Lib.decDigits (valD d) ∧ valD d ≤ 9223372036854775807 then some (valD d) else none := by
  split
  · rename_i h
    conv => lhs; rw [h.1]
    exact numV_digits _ h.2
  · rename_i h
    cases hv : numV d with
    | none => rfl
    | some n =>
      obtain ⟨e, hn⟩ := numV_some hv
      have e2 : valD d = n := by rw [e, valD_digits]
      exact absurd ⟨by rw [e2]; exact e, by rw [e2]; exact hn⟩ h
theorem numV_dig {d : List UInt8} {n : Nat} (h : numV d = some n) : d.all isD = true := by
  obtain ⟨rfl, _⟩ := numV_some h
  rw [List.all_eq_true]
  intro c hc
  simpa [isD] using decDigits_mem n c hc
theorem blank_not {D : List UInt8} (h : D.all isD = true) : (32 : UInt8) ∉ D := fun hm => by
  have := List.all_eq_true.1 h _ hm
  revert this; decide
theorem split_at {D r d h : List UInt8} {x : UInt8} (hD : (32 : UInt8) ∉ D) (hx : x ≠ 32) (e : D ++ x :: r = d ++ 32 :: h) : ∃ d', d = D ++ x :: d' := by
  induction D generalizing d with
  | nil =>
    cases d with
    | nil => simp at e; exact absurd e.1 hx
    | cons y d => simp at e; exact ⟨d, by simp [e.1]⟩
  | cons z D ih =>
    cases d with
    | nil => simp at e; exact absurd e.1 (fun e1 => hD (by simp [e1]))
    | cons y d =>
      simp at e
      obtain ⟨d', rfl⟩ := ih (fun hm => hD (by simp [hm])) e.2
      exact ⟨d', by simp [e.1]⟩
/-- No blank behind the digits. -/
theorem body_odd (D r t : List UInt8) (x : UInt8) (hD : D.all isD = true) (hx : x ≠ 32) (h : isD x = false ∨ 19 ≤ D.length) : bodyL (D ++ x :: r) t = ([], 3) := by
  rcases cut1_cases (D ++ x :: r) 32 with hn | ⟨d, e, hde, hd⟩
  · exact body_no _ _ hn
  · rw [hde, body_at _ _ _ hd]
    cases hv : numV d with
    | none => rfl
    | some n =>
      obtain ⟨d', rfl⟩ := split_at (blank_not hD) hx hde
      exfalso
      rcases h with h | h
      · have := numV_dig hv
        rw [List.all_append] at this
        simp [h] at this
      · have := numV_len hv
        simp at this; omega
theorem body_end (D t : List UInt8) (hD : D.all isD = true) : bodyL D t = ([], 3) := body_no _ _ (blank_not hD)
end Go.Proofs.YtkoddlfhkgonbaaDoor
