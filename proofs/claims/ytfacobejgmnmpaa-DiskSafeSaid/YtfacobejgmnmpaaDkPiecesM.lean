/-
  CONTRACT of Truncate, as the statements use it.
-/
import Derived.Test.YtfacobejgmnmpaaDkWT
import Derived.Test.YtfacobejgmnmpaaDkL
namespace Go.Proofs.Ytfacobejgmnmpaa
open Go.RowKit Go.Maps

variable {Fp : Nat → Prop} {w : World} {Bd : Nat} {d : DS} {m : Nat}
theorem trunc_d (h : Dsk Fp w Bd d m) (s : ByteArray) (hs : s.size ≤ 9223372036854775807) (k : Int) :
    Calls Try.prog 17 #[.pointer (some ⟨Bd, 0, none⟩), .string s, .int .i64 k] w fun e w' => e = .returned (.int .i64 (truE d s k)) ∧ OpPost Fp w Bd (truD d s k) m w' := by
  obtain ⟨a, b, c, hne, hD⟩ := h
  exact trunc_any hD hne s hs k
theorem Dsk.srt (h : Dsk Fp w Bd d m) : Srt d.now := by
  obtain ⟨a, b, c, hne, hD⟩ := h
  exact hD.srtN
end Go.Proofs.Ytfacobejgmnmpaa
