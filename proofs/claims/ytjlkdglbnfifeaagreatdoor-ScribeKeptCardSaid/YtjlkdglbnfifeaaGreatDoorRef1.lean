/-
  CONTRACTS of the document's own answers for layer 1 that write (Digits, Int, Text): decimal digits, a number's bytes, a text's bytes; they write to nothing that was there.
-/
import Derived.Test.YtjlkdglbnfifeaaGreatDoorWr
import Derived.Test.YtjlkdglbnfifeaaGreatDoorDig
namespace Go.Proofs.YtjlkdglbnfifeaaGreatDoor.Pk
open Go.RowKit

/-- A number's bytes, a text's bytes. -/
def intL (n : Int) : List UInt8 := [105] ++ Lib.itoa n ++ [59]
def textL (t : List UInt8) : List UInt8 := Lib.itoa t.length ++ [58] ++ t
theorem neg_u64 (n : Int) (h0 : -9223372036854775808 ≤ n) (h1 : n < 0) : IntKind.u64.wrap (-(IntKind.u64.wrap n)) = (n.natAbs : Int) := by
  rw [IntKind.wrap_u64, IntKind.wrap_u64]; omega

end Go.Proofs.YtjlkdglbnfifeaaGreatDoor.Pk
