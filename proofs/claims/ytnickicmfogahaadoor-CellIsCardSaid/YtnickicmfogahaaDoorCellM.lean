/-
  MATHEMATICS of layer 6's order: turned about, alike, three in a row; and Good's contract with one answer for every world.
-/
import Derived.Test.YtnickicmfogahaaDoorCellW3
namespace Go.Proofs.YtnickicmfogahaaDoor
open Go.RowKit

theorem good_c (k n : Int) (s : ByteArray) (hs : s.size ≤ 1000000) :
    ∃ g : Bool, (g = true ↔ GoodC k n s) ∧ ∀ W, Calls Tryd.prog 8 #[cv k n s] W fun e w' => e = .returned (.bool g) ∧ Below W.heap.size W w' := by
  by_cases h : GoodC k n s
  · refine ⟨true, by simp [h], fun W => ?_⟩
    obtain ⟨b, hb, hc⟩ := good_any k n s W hs
    rw [hb.2 h] at hc; exact hc
  · refine ⟨false, by simp [h], fun W => ?_⟩
    obtain ⟨b, hb, hc⟩ := good_any k n s W hs
    have : b = false := by
      cases b
      · rfl
      · exact absurd (hb.1 rfl) h
    rw [this] at hc; exact hc
theorem good_one {k n : Int} {s : ByteArray} (h : GoodC k n s) : k = 1 → OkN n := by
  intro hk
  rcases h with h | h | h | h
  · exact absurd (hk.symm.trans h.1) (by decide)
  · exact h.2.1
  · exact absurd (hk.symm.trans h.1) (by decide)
  · exact absurd (hk.symm.trans h.1) (by decide)
theorem cb_range : ∀ x y : List UInt8, Lib.compareBytes x y = -1 ∨ Lib.compareBytes x y = 0 ∨ Lib.compareBytes x y = 1
  | [], [] => by simp [Lib.compareBytes]
  | [], _ :: _ => by simp [Lib.compareBytes]
  | _ :: _, [] => by simp [Lib.compareBytes]
  | a :: x, b :: y => by
    rw [Lib.compareBytes]
    split
    · simp
    · split
      · simp
      · exact cb_range x y
theorem cb_turn : ∀ x y : List UInt8, Lib.compareBytes y x = -Lib.compareBytes x y
  | [], [] => by simp [Lib.compareBytes]
  | [], _ :: _ => by simp [Lib.compareBytes]
  | _ :: _, [] => by simp [Lib.compareBytes]
  | a :: x, b :: y => by
    rw [Lib.compareBytes, Lib.compareBytes]
    have ha : a < b ↔ a.toNat < b.toNat := UInt8.lt_iff_toNat_lt
    have hb : b < a ↔ b.toNat < a.toNat := UInt8.lt_iff_toNat_lt
    by_cases h1 : a < b
    · have h2 : ¬ b < a := by rw [hb]; rw [ha] at h1; omega
      simp [h1, h2]
    · by_cases h2 : b < a
      · simp [h1, h2]
      · simp [h1, h2]; exact cb_turn x y
theorem cb_self (x : List UInt8) : Lib.compareBytes x x = 0 := by have := cb_turn x x; omega
theorem comp_range (k1 n1 : Int) (s1 : ByteArray) (k2 n2 : Int) (s2 : ByteArray) : compC k1 n1 s1 k2 n2 s2 = -1 ∨ compC k1 n1 s1 k2 n2 s2 = 0 ∨ compC k1 n1 s1 k2 n2 s2 = 1 := by
  unfold compC
  split
  · exact cb_range _ _
  · unfold cmpI; split <;> (try split) <;> simp
theorem comp_turn (k1 n1 : Int) (s1 : ByteArray) (k2 n2 : Int) (s2 : ByteArray) : compC k2 n2 s2 k1 n1 s1 = -compC k1 n1 s1 k2 n2 s2 := by
  unfold compC
  by_cases h : k1 = 2 ∨ k2 = 2
  · rw [if_pos h, if_pos h.symm]; exact cb_turn _ _
  · rw [if_neg h, if_neg (fun h' => h h'.symm)]
    unfold cmpI
    by_cases h1 : n1 < n2
    · simp [h1, show ¬ n2 < n1 by omega]
    · by_cases h2 : n2 < n1
      · simp [h1, h2]
      · simp [h1, h2]
theorem comp_self (k n : Int) (s : ByteArray) : compC k n s k n s = 0 := by have := comp_turn k n s k n s; omega
/-- Three in a row keep their order. -/
theorem cb_le : ∀ x y z : List UInt8, Lib.compareBytes x y ≤ 0 → Lib.compareBytes y z ≤ 0 → Lib.compareBytes x z ≤ 0
  | [], _, [] => by simp [Lib.compareBytes]
  | [], _, _ :: _ => by simp [Lib.compareBytes]
  | _ :: _, [], _ => by simp [Lib.compareBytes]
  | _ :: _, _ :: _, [] => by simp [Lib.compareBytes]
  | a :: x, b :: y, c :: z => by
    rw [Lib.compareBytes, Lib.compareBytes, Lib.compareBytes]
    have e1 : a < b ↔ a.toNat < b.toNat := UInt8.lt_iff_toNat_lt
    have e2 : b < a ↔ b.toNat < a.toNat := UInt8.lt_iff_toNat_lt
    have e3 : b < c ↔ b.toNat < c.toNat := UInt8.lt_iff_toNat_lt
    have e4 : c < b ↔ c.toNat < b.toNat := UInt8.lt_iff_toNat_lt
    have e5 : a < c ↔ a.toNat < c.toNat := UInt8.lt_iff_toNat_lt
    have e6 : c < a ↔ c.toNat < a.toNat := UInt8.lt_iff_toNat_lt
    simp only [e1, e2, e3, e4, e5, e6]
    have ih := cb_le x y z
    split
    · split
      · intros; split <;> omega
      · split
        · intros; omega
        · intros; split <;> omega
    · split
      · intros; omega
      · split
        · intros; split <;> omega
        · split
          · intros; omega
          · intro h1 h2
            have := ih h1 h2
            split <;> (try split) <;> omega
theorem comp_le (k n1 : Int) (s1 : ByteArray) (n2 : Int) (s2 : ByteArray) (n3 : Int) (s3 : ByteArray) (h1 : compC k n1 s1 k n2 s2 ≤ 0) (h2 : compC k n2 s2 k n3 s3 ≤ 0) : compC k n1 s1 k n3 s3 ≤ 0 := by
  unfold compC at *
  by_cases h : k = 2 ∨ k = 2
  · simp only [if_pos h] at *; exact cb_le _ _ _ h1 h2
  · simp only [if_neg h] at *
    unfold cmpI at *
    split at h1 <;> split at h2 <;> (try split at h1) <;> (try split at h2) <;> (try omega) <;> split <;> (try split) <;> omega
end Go.Proofs.YtnickicmfogahaaDoor
