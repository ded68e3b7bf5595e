/-
  A text with one byte changed: 'string([]byte{c})' of a new array of one byte; the bytes of s[:at] + string([]byte{c}) + s[at+1:].
-/
import Derived.Test.YtkoddlfhkgonbaaDoorSum3
import Derived.Lib.SmallJoins
namespace Go.Proofs.YtkoddlfhkgonbaaDoor
open Go.RowKit

/-- 'string([]byte{c})' of a new array of one byte. -/
theorem conv1 (c : Nat) (hc : c < 256) (a : Addr) (w : World) (h : w.cell? a = some (.int .u8 c)) : (convert 32 9 (.slice (some a) 1 1)).run Tryd.prog w = .ok (.string ⟨#[UInt8.ofNat c]⟩) w := by
  have e : (c : Int) = ((UInt8.ofNat c).toNat : Int) := by rw [UInt8.toNat_ofNat_of_lt' hc]
  refine run_convert_bytes_back (P := Tryd.prog) _ 32 9 5 _ 1 [UInt8.ofNat c] Tryd.underlying32 Tryd.underlying5 Tryd.underlying9 ?_
  intro j hj
  obtain rfl : j = 0 := by simpa using hj
  rw [show a.add 0 = a from by simp [Addr.add], h, e]
  rfl

theorem changed_at (t : ByteArray) (k : Nat) (c : UInt8) (h : k < t.size) :
    t.data.toList = t.data.toList.take k ++ t[k] :: t.data.toList.drop (k + 1) ∧ (t.extract 0 k ++ (⟨#[c]⟩ : ByteArray) ++ t.extract (k + 1) t.size).data.toList = t.data.toList.take k ++ c :: t.data.toList.drop (k + 1) := by
  have hl : k < t.data.toList.length := by simpa using h
  refine ⟨?_, ?_⟩
  · conv => lhs; rw [← List.take_append_drop k t.data.toList, List.drop_eq_getElem_cons (by omega)]
    rfl
  · simp only [ByteArray.data_append, Array.toList_append, Lib.extract_data, List.append_assoc]
    simp
    exact List.take_of_length_le (by simp)
theorem changed_lists (t : ByteArray) (k : Nat) (c : UInt8) (h : k < t.size) :
    ∃ (l r : List UInt8) (d : UInt8), t.data.toList = l ++ d :: r ∧ (t.extract 0 k ++ (⟨#[c]⟩ : ByteArray) ++ t.extract (k + 1) t.size).data.toList = l ++ c :: r :=
  ⟨_, _, _, changed_at t k c h⟩
end Go.Proofs.YtkoddlfhkgonbaaDoor
