/-
  CONTRACT of the Reader's digits: what it reads, where it stands behind it, which error it bears.
-/
import Derived.Test.YtohlnpopkaoljaaDoorPkRd
import Derived.Deep.LoopGhost
namespace Go.Proofs.YtohlnpopkaoljaaDoor
open Go.RowKit

def digB (c : Nat) : Bool := decide (48 ≤ c ∧ c ≤ 57)

/-- Does a digit stand at i? -/
def dgB (s : ByteArray) (i : Nat) : Bool := if h : i < s.size then digB s[i].toNat else false
def dgV (s : ByteArray) (i : Nat) : Nat := if h : i < s.size then s[i].toNat - 48 else 0
/-- What digits does from i on, n being the number so far: the place, the error, the answer. -/
def digP (s : ByteArray) (first most : Nat) : Nat → Nat → Nat → Nat × Nat × Nat
  | 0, i, _ => (i, 3, 0)
  | f + 1, i, n =>
    if dgB s i = true then
      if i - first = 19 ∨ (i - first = 1 ∧ n = 0) then (i, 3, 0) else digP s first most f (i + 1) (n * 10 + dgV s i)
    else if i = first then (i, refE s i, 0) else if n > most then (i, 3, 0) else (i, 0, n)
def dig (s : ByteArray) (i k most : Nat) : Nat × Nat × Nat := if k ≠ 0 then (i, k, 0) else digP s i most (s.size - i + 1) i 0

theorem dgB_lt {s : ByteArray} {i : Nat} (h : dgB s i = true) : i < s.size := by
  unfold dgB at h
  by_cases hq : i < s.size
  · exact hq
  · rw [dif_neg hq] at h; cases h

end Go.Proofs.YtohlnpopkaoljaaDoor
