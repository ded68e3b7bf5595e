/-
  THE WALK of the law PackWrites: whatever the things, it returns true and writes to nothing that was there, where the library's table of powers of ten is as its text lays it.
-/
import Derived.Test.YtjlkdglbnfifeaaGreatDoorPut
namespace Go.Proofs.YtjlkdglbnfifeaaGreatDoor.Pk
open Go.RowKit

/-- What a thing that comes in keeps. -/
def Th.ok (t : Th) : Prop := -9223372036854775808 ≤ t.n ∧ t.n ≤ 9223372036854775807 ∧ t.s.size ≤ maxLen
def Th.small (t : Th) : Prop := -9223372036854775808 ≤ t.n ∧ t.n ≤ 9223372036854775807 ∧ t.s.size ≤ 200
theorem few_small {l : List Th} {n : Nat} (h : ∀ t ∈ l, t.ok) : ∀ t ∈ fewL l n, t.small := by
  intro t ht
  obtain ⟨u, hu, rfl⟩ := List.mem_map.1 ht
  obtain ⟨h1, h2, _⟩ := h u (List.mem_of_mem_take hu)
  exact ⟨h1, h2, cutB_size _ _⟩
theorem few_length (l : List Th) (n : Nat) : (fewL l n).length ≤ n := by unfold fewL; simp; omega
theorem enc_len {t : Th} (h : t.small) : t.enc.length ≤ 300 := by
  obtain ⟨h1, h2, h3⟩ := h
  unfold Th.enc
  split
  · have := (itoa_len t.n h1 h2).2
    simp [intL]; omega
  · split
    · have := (itoa_len t.s.data.toList.length (by omega) (by simp; omega)).2
      have e : t.s.data.toList.length = t.s.size := by simp
      simp [textL] at this ⊢; omega
    · split
      · simp
      · split <;> simp
/-- The bytes of things one behind the other. -/
def encs (l : List Th) : List UInt8 := l.flatMap Th.enc
theorem encs_snoc {l : List Th} {k : Nat} (h : k < l.length) : encs (l.take (k + 1)) = encs (l.take k) ++ l[k].enc := by
  unfold encs
  rw [List.take_succ_eq_append_getElem h, List.flatMap_append]
  simp only [List.flatMap_cons, List.flatMap_nil, List.append_nil]
theorem encs_len {l : List Th} (h : ∀ t ∈ l, t.small) : (encs l).length ≤ 300 * l.length := by
  induction l with
  | nil => simp [encs]
  | cons t l ih =>
    have h1 := enc_len (h t (by simp))
    have h2 := ih (fun u hu => h u (by simp [hu]))
    simp only [encs, List.flatMap_cons, List.length_append, List.length_cons] at h2 ⊢
    omega
theorem encs_take_len {l : List Th} (h : ∀ t ∈ l, t.small) (k : Nat) : (encs (l.take k)).length ≤ 300 * l.length := by
  have := encs_len (l := l.take k) (fun t ht => h t (List.mem_of_mem_take ht))
  simp at this; omega

end Go.Proofs.YtjlkdglbnfifeaaGreatDoor.Pk
