/-
  CONTRACTS of strings.Clone (off the shelf), and of the Reader's text and Text: what each answers, where the Reader stands behind it, which error it bears.
-/
import Derived.Test.YtohlnpopkaoljaaDoorPkRdNum
import Derived.Test.YtohlnpopkaoljaaDoorShelf
namespace Go.Proofs.YtohlnpopkaoljaaDoor
open Go.RowKit

set_option maxHeartbeats 400000 in
theorem rd_clone (s : ByteArray) (w : World) (hs : s.size ≤ 281474976710656) :
    Calls Tryd.prog 20 #[.string s] w fun e w' => e = .returned (.string s) ∧ Below w.heap.size w w' := by
  go_enter Tryd.func20, Tryd.ntmps20
  go_wp2_with fail
  refine (Tryd.stringslite_Clone s _ hs).mono ?_
  rintro e w1 ⟨rfl, hb⟩
  go_wp2_with fail
  go_ret
  exact ⟨rfl, hb⟩

/-- text, from behind the digits on (the place, the error, the number). -/
def txE1 (d : Nat × Nat × Nat) (most : Nat) : Nat := if d.2.1 ≠ 0 then d.2.1 else if most < d.2.2 then 12 else 0
def txA2 (s : ByteArray) (d : Nat × Nat × Nat) (most : Nat) : Nat := signA s d.1 (txE1 d most) 58
def txE2 (s : ByteArray) (d : Nat × Nat × Nat) (most : Nat) : Nat := signE s d.1 (txE1 d most) 58
def txE3 (s : ByteArray) (d : Nat × Nat × Nat) (most : Nat) : Nat := if txE2 s d most ≠ 0 then txE2 s d most else if s.size - txA2 s d most < d.2.2 then 2 else 0
/-- What text does: the place, the error, the answer. -/
def txP (s : ByteArray) (i k most : Nat) : Nat × Nat × ByteArray :=
  if txE3 s (dig s i k maxInt) most ≠ 0 then (txA2 s (dig s i k maxInt) most, txE3 s (dig s i k maxInt) most, ⟨#[]⟩)
  else (txA2 s (dig s i k maxInt) most + (dig s i k maxInt).2.2, 0, s.extract (txA2 s (dig s i k maxInt) most) (txA2 s (dig s i k maxInt) most + (dig s i k maxInt).2.2))


theorem txP_size (s : ByteArray) (i k most : Nat) : (txP s i k most).2.2.size ≤ s.size := by
  unfold txP
  by_cases h : txE3 s (dig s i k maxInt) most ≠ 0
  · rw [if_pos h]; exact Nat.zero_le _
  · rw [if_neg h]; simp; omega

end Go.Proofs.YtohlnpopkaoljaaDoor
