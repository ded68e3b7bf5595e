/-
  MATHEMATICS of layer 16: parts with what parts them between are the text.
-/
import Derived.Test.YtllbnbnpcogckaaGreatDoorInW8
namespace Go.Proofs.YtllbnbnpcogckaaGreatDoor
open Go.RowKit

/-- So many parts, with what parts them between. -/
def jb (L : List (List UInt8)) (c : List UInt8) : Nat → List UInt8
  | 0 => []
  | k + 1 => jb L c k ++ (if k = 0 then [] else c) ++ L.getD k []
theorem jb_succ (L : List (List UInt8)) (c : List UInt8) (k : Nat) : jb L c (k + 1) = jb L c k ++ (if k = 0 then [] else c) ++ L.getD k [] := rfl
theorem jb_cons (x : List UInt8) (L : List (List UInt8)) (c : List UInt8) : ∀ k, jb (x :: L) c (k + 1) = x ++ (if k = 0 then [] else c ++ jb L c k)
  | 0 => by simp [jb]
  | k + 1 => by
    rw [jb_succ, jb_cons x L c k, if_neg (Nat.succ_ne_zero k), if_neg (Nat.succ_ne_zero k), jb_succ]
    by_cases h : k = 0
    · subst h; simp [jb]
    · rw [if_neg h, if_neg h]; simp
theorem jb_split (c : List UInt8) : ∀ (k : Nat) (s : List UInt8), jb (Lib.splitK c 0 k s) c (Lib.splitK c 0 k s).length = s ∧ (Lib.splitK c 0 k s) ≠ []
  | 0, s => by simp [Lib.splitK, jb]
  | k + 1, s => by
    unfold Lib.splitK
    by_cases h : Lib.index s c = -1
    · rw [if_pos (by simp [h])]; simp [jb]
    · rw [if_neg (by simpa using h)]
      obtain ⟨h1, h2⟩ := jb_split c k (s.drop ((Lib.index s c).toNat + c.length))
      refine ⟨?_, by simp⟩
      rw [List.length_cons, jb_cons, if_neg (by have := List.length_pos_iff.2 h2; omega), h1]
      rcases Lib.index_spec s c with ⟨h3, _⟩ | ⟨i, h3, h4, h5, _⟩
      · exact absurd h3 h
      · rw [h3, Int.toNat_natCast, Nat.add_zero]
        unfold Lib.occAt at h5
        rw [List.isPrefixOf_iff_prefix] at h5
        obtain ⟨t, ht⟩ := h5
        have e : s.drop (i + c.length) = t := by rw [← List.drop_drop, ← ht, List.drop_left]
        rw [e]
        rw [ht, List.take_append_drop]
def datas (l : List ByteArray) : List (List UInt8) := l.map (·.data.toList)
theorem jb_fields (s sep : ByteArray) (hs : s.toList ≠ []) (h32 : sep.toList ≠ [32]) : jb (datas (fieldsB s sep)) sep.data.toList (fieldsB s sep).length = s.data.toList := by
  unfold fieldsB
  rw [if_neg hs, if_neg h32]
  have h := Lib.splitB_data sep 0 (Lib.countB s sep) s
  have h2 := (jb_split sep.data.toList (Lib.countB s sep) s.data.toList).1
  rw [← h, List.length_map] at h2
  exact h2
theorem jb_le (L : List (List UInt8)) (c : List UInt8) (k : Nat) : ∀ d, (jb L c k).length ≤ (jb L c (k + d)).length
  | 0 => Nat.le_refl _
  | d + 1 => by
    have := jb_le L c k d
    rw [show k + (d + 1) = (k + d) + 1 by omega, jb_succ]
    simp only [List.length_append]
    omega
end Go.Proofs.YtllbnbnpcogckaaGreatDoor
