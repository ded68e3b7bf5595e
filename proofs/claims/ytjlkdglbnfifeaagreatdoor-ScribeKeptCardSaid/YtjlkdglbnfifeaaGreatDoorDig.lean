/-
  CONTRACT of the document's own answer for decimal digits (scriberef01.Digits): the digits as the library's specification writes them; it writes to nothing that was there.
-/
import Derived.Test.YtjlkdglbnfifeaaGreatDoorRows
import Derived.WalkKit
import Derived.WalkSpells
import Derived.WalkLawsBesides
import Derived.Lib.Hide
import Derived.Deep.QuietTactic
import Derived.BigQuiet
import Derived.IntWalk
import Derived.Lib.Strings
import Derived.Lib.IndexBytes
import Derived.Lib.ItoaLen
import Derived.Lib.BufferRead
import Derived.Lib.AppendStr
import Derived.OwnWalk
namespace Go.Proofs.YtjlkdglbnfifeaaGreatDoor.Pk
open Go.RowKit

/-- 'string([]byte{c})' of a new array of one byte. -/
theorem conv_one (c : UInt8) (n : Int) (hn : n = c.toNat) (a : Addr) (w : World) (h : w.cell? a = some (.int .u8 n)) : (convert 27 9 (.slice (some a) 1 1)).run Tryz.prog w = .ok (.string ⟨#[c]⟩) w := by
  refine run_convert_bytes_back (P := Tryz.prog) _ 27 9 5 _ 1 [c] Tryz.underlying27 Tryz.underlying5 Tryz.underlying9 ?_
  intro j hj
  obtain rfl : j = 0 := by simpa using hj
  rw [show a.add 0 = a from by simp [Addr.add], h, hn]
  rfl
def dch (u : Nat) : UInt8 := UInt8.ofNat (48 + u % 10)
/-- The digits of u that are to come yet, k having been made. -/
def pend (u k : Nat) : List UInt8 := if k ≠ 0 ∧ u = 0 then [] else Lib.decDigits u
theorem pend_step (u k : Nat) (h : k = 0 ∨ u ≠ 0) : pend u k = pend (u / 10) (k + 1) ++ [dch u] := by
  unfold pend dch
  rw [if_neg (by omega)]
  by_cases h2 : u < 10
  · rw [if_pos ⟨by omega, by omega⟩, Lib.decDigits_one h2, show u % 10 = u from by omega]; rfl
  · rw [if_neg (by omega), Lib.decDigits, dif_neg h2]
theorem digit_val (u : Nat) : (48 : Int) + (u : Int) % 10 = ((dch u).toNat : Int) := by
  unfold dch
  rw [UInt8.toNat_ofNat_of_lt' (by show 48 + u % 10 < 256; omega)]; omega

end Go.Proofs.YtjlkdglbnfifeaaGreatDoor.Pk
