/-
  MATHEMATICS of layer top's ScribeParted: each match that All hands over is one by itself; the pieces between and the matches are the text.
-/
import Derived.Test.YtmlpkimbcjkbkaaGreatDoorMtL2
import Derived.Test.YtmlpkimbcjkbkaaGreatDoorMtAl
namespace Go.Proofs.YtmlpkimbcjkbkaaGreatDoor

theorem Pth.met {s : ByteArray} {t : RT} {xs : List (Nat × Nat)} {a : Nat} {told : Option Nat} (h : Pth s t xs a told) : ∀ pre x, xs = pre ++ [x] → Met s t x.1 x.2 := by
  induction h with
  | start => intro pre x e; exact absurd e (by simp)
  | skip h hf ih => exact ih
  | @take pre a i j told h hf hn ih =>
    intro pre2 x e
    obtain ⟨rfl, e2⟩ := List.append_inj' e rfl
    obtain rfl : (i, j) = x := by simpa using e2
    exact hf.2.1
theorem AllP.met {s : ByteArray} {t : RT} {pre : List (Nat × Nat)} {x : Nat × Nat} (h : AllP s t (pre ++ [x])) : Met s t x.1 x.2 := by
  obtain ⟨a, told, h⟩ := h
  exact h.met pre x rfl
/-- A match by itself: the pattern between ^( and )$ has it. -/
theorem AllP.part {s : ByteArray} {t : RT} {pre : List (Nat × Nat)} {i j : Nat} (h : AllP s t (pre ++ [(i, j)])) (hn : NoE t) : InIs (s.extract i j) (wholeT t) :=
  met_whole.2 ((met_part hn h.met.le h.met.1 (by simp [List.drop_take])).2 h.met)
/-- What has been put together up to a place, and the next two pieces. -/
theorem piece_next (s : ByteArray) {a i j : Nat} (h1 : a ≤ i) (h2 : i ≤ j) : s.extract 0 a ++ (s.extract a i ++ s.extract i j) = s.extract 0 j := by
  rw [ByteArray.extract_append_extract, Nat.min_eq_left h1, Nat.max_eq_right h2, ByteArray.extract_append_extract]
  congr 1 <;> omega
theorem piece_all (s : ByteArray) {a : Nat} (h : a ≤ s.size) : s.extract 0 a ++ s.extract a s.size = s := by
  rw [ByteArray.extract_append_extract, Nat.min_eq_left (by omega), Nat.max_eq_right h]
  simp
end Go.Proofs.YtmlpkimbcjkbkaaGreatDoor
