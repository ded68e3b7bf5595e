/-
  THE MATHEMATICS of layer 10 (match): parts taken from the left, one more behind those that were.
-/
import Derived.Test.YtjjejcgpeefclaaDoorMtN
namespace Go.Proofs.YtjjejcgpeefclaaDoor

theorem leavesN_snoc (t : RT) : ∀ l : List RT, leavesN (l ++ [t]) = leavesN l + leafN t
  | [] => by simp [leavesN]
  | u :: l => by
    rw [List.cons_append]
    unfold leavesN
    rw [leavesN_snoc t l]; omega
theorem empC_snoc (t : RT) (k : Nat) : ∀ l : List RT, empC (l ++ [t]) k = (empC l k && emp t k)
  | [] => by simp [empC]
  | u :: l => by
    rw [List.cons_append]
    unfold empC
    rw [empC_snoc t k l, Bool.and_assoc]
theorem FstC_snoc (t : RT) (k x : Nat) : ∀ (l : List RT) (b : Nat), FstC (l ++ [t]) b k x ↔ FstC l b k x ∨ (empC l k = true ∧ Fst t (b + leavesN l) k x)
  | [], b => by simp [FstC, empC, leavesN]
  | u :: l, b => by
    have h := FstC_snoc t k x l (b + leafN u)
    have e : b + leafN u + leavesN l = b + leavesN (u :: l) := by rw [show leavesN (u :: l) = leafN u + leavesN l from by rw [leavesN]]; omega
    rw [e] at h
    rw [List.cons_append, FstC, FstC, h, show empC (u :: l) k = (emp u k && empC l k) from by rw [empC], Bool.and_eq_true]
    constructor
    · rintro (h | ⟨h1, h | ⟨h2, h3⟩⟩)
      · exact .inl (.inl h)
      · exact .inl (.inr ⟨h1, h⟩)
      · exact .inr ⟨⟨h1, h2⟩, h3⟩
    · rintro ((h | ⟨h1, h⟩) | ⟨⟨h1, h2⟩, h3⟩)
      · exact .inl h
      · exact .inr ⟨h1, .inl h⟩
      · exact .inr ⟨h1, .inr ⟨h2, h3⟩⟩
theorem LstC_snoc (t : RT) (k x : Nat) : ∀ (l : List RT) (b : Nat), LstC (l ++ [t]) b k x ↔ Lst t (b + leavesN l) k x ∨ (emp t k = true ∧ LstC l b k x)
  | [], b => by simp [LstC, empC, leavesN]
  | u :: l, b => by
    have h := LstC_snoc t k x l (b + leafN u)
    have e : b + leafN u + leavesN l = b + leavesN (u :: l) := by rw [show leavesN (u :: l) = leafN u + leavesN l from by rw [leavesN]]; omega
    rw [e] at h
    rw [List.cons_append, LstC, LstC, h, empC_snoc, Bool.and_eq_true]
    constructor
    · rintro ((h | ⟨h1, h2⟩) | ⟨⟨h1, h2⟩, h3⟩)
      · exact .inl h
      · exact .inr ⟨h1, .inl h2⟩
      · exact .inr ⟨h2, .inr ⟨h1, h3⟩⟩
    · rintro (h | ⟨h1, h2 | ⟨h2, h3⟩⟩)
      · exact .inl (.inl h)
      · exact .inl (.inr ⟨h1, h2⟩)
      · exact .inr ⟨⟨h2, h1⟩, h3⟩
theorem FstA_snoc (t : RT) (k x : Nat) : ∀ (l : List RT) (b : Nat), FstA (l ++ [t]) b k x ↔ FstA l b k x ∨ Fst t (b + leavesN l) k x
  | [], b => by simp [FstA, leavesN]
  | u :: l, b => by
    have h := FstA_snoc t k x l (b + leafN u)
    have e : b + leafN u + leavesN l = b + leavesN (u :: l) := by rw [show leavesN (u :: l) = leafN u + leavesN l from by rw [leavesN]]; omega
    rw [e] at h
    rw [List.cons_append, FstA, FstA, h, or_assoc]
theorem LstA_snoc (t : RT) (k x : Nat) : ∀ (l : List RT) (b : Nat), LstA (l ++ [t]) b k x ↔ LstA l b k x ∨ Lst t (b + leavesN l) k x
  | [], b => by simp [LstA, leavesN]
  | u :: l, b => by
    have h := LstA_snoc t k x l (b + leafN u)
    have e : b + leafN u + leavesN l = b + leavesN (u :: l) := by rw [show leavesN (u :: l) = leafN u + leavesN l from by rw [leavesN]]; omega
    rw [e] at h
    rw [List.cons_append, LstA, LstA, h, or_assoc]
end Go.Proofs.YtjjejcgpeefclaaDoor
