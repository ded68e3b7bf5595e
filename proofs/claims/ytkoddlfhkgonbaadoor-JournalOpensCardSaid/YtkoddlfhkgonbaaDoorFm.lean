/-
  Eight digits, sign by sign: what the laws' own loops over a sum's signs come to.
-/
import Derived.Test.YtkoddlfhkgonbaaDoorSum3
namespace Go.Proofs.YtkoddlfhkgonbaaDoor
open Go.RowKit

/-- Is the sign so far one of eight digits? -/
def fm (h : ByteArray) (k : Nat) : Bool := h.size == 8 && (h.data.toList.take k).all (fun c => hexd c.toNat)
theorem fm_succ (h : ByteArray) (k : Nat) (hk : k < h.size) : fm h (k + 1) = (fm h k && hexd h[k].toNat) := by
  unfold fm; rw [Ad.take_snoc h k hk, List.all_append]; simp [Bool.and_assoc]
theorem fm_zero (h : ByteArray) : fm h 0 = ((h.size : Int) == 8) := by
  unfold fm; rw [Bool.eq_iff_iff]; simp; omega
theorem fm_end (h : ByteArray) (k : Nat) (hk : ¬ k < h.size) : fm h k = isHexB h := by
  unfold fm isHexB
  rw [List.take_of_length_le (by simp; omega), Bool.and_comm]; simp
theorem sums_cases (h t : ByteArray) : ∃ b c : Bool, isHexB h = b ∧ (h.toList == (hexS (Ad.sum t.data.toList)).toList) = c ∧ checkV h t = if b = true then (if c = true then 0 else 4) else 3 := by
  cases hx : isHexB h with
  | false => exact ⟨_, _, rfl, rfl, by simp [checkV, hx]⟩
  | true =>
    by_cases e : h = hexS (Ad.sum t.data.toList)
    · refine ⟨_, true, rfl, by rw [← e]; simp, by simp [checkV, hx, ← e]⟩
    · exact ⟨_, false, rfl, bytes_ne e, by simp [checkV, hx, e]⟩
end Go.Proofs.YtkoddlfhkgonbaaDoor
