/-
  CONTRACT of Crash, as the statements use it.
-/
import Derived.Test.YtfacobejgmnmpaaDkL
import Derived.Test.YtfacobejgmnmpaaDkWD
namespace Go.Proofs.Ytfacobejgmnmpaa
open Go.RowKit Go.Maps

variable {Fp : Nat → Prop} {w : World} {Bd : Nat} {d : DS} {m : Nat}
theorem crash_d (h : Dsk Fp w Bd d m) (hF : Up Fp w) (v : Value) (ks : List Int) (hk : KeepsAt Fp w v ks) (nm : Bool) :
    Calls Try.prog 20 #[.pointer (some ⟨Bd, 0, none⟩), v, .bool nm] w fun e w' => e = .returned (.tuple #[]) ∧ OpPost Fp w Bd (crashD d ks nm) m w' := by
  obtain ⟨a, b, c, hne, hD⟩ := h
  cases nm
  · exact crash_false hD hF v ks hk
  · exact crash_true hD hF v ks hk
/-- A crash whose numbers are a list that the text spells out. -/
theorem crash_lit (h : Dsk Fp w Bd d m) (hF : Up Fp w) (k : Int) (hk : k ≤ 9223372036854775807) (nm : Bool) :
    Calls Try.prog 20 #[.pointer (some ⟨Bd, 0, none⟩), .slice (some ⟨w.heap.size, 0, none⟩) 1 1, .bool nm] (w.alloc (.cells #[.int .i64 k] 3)) fun e w' => e = .returned (.tuple #[]) ∧ OpPost Fp w Bd (crashD d [k] nm) m w' := by
  obtain ⟨a, b, c, hne, hD⟩ := h
  have hD1 := (hD.nar (w.heap.size + 1)).alloc (.cells #[.int .i64 k] 3)
  have hup : ∀ j, w.heap.size ≤ j → Fp j := hF
  have hK : KeepsAt (nar Fp w.heap.size (w.heap.size + 1)) (w.alloc (.cells #[.int .i64 k] 3)) (.slice (some ⟨w.heap.size, 0, none⟩) 1 1) [k] := by
    refine ⟨_, _, rfl, by simp, by simpa using hk, ?_⟩
    intro i hi
    obtain rfl : i = 0 := by simpa using hi
    refine ⟨_, rfl, ?_, ?_⟩
    · rintro (h | h)
      · exact absurd h.2 (Nat.lt_irrefl _)
      · exact absurd h (Nat.not_succ_le_self _)
    · simp [go_sem, Addr.add]
  refine (crash_d ⟨a, b, c, hne, hD1⟩ (nar_up (by simp)) _ [k] hK nm).mono ?_
  rintro e w' ⟨rfl, ⟨a', b', c', hne', hD'⟩, hO⟩
  refine ⟨rfl, ⟨a', b', c', hne', hD'.wider (fun j _ hj => nar_of hup (Nat.le_succ _) hj)⟩, ?_⟩
  exact ((Oth.refl Fp w).alloc _).trans (hO.wide hup (Nat.le_succ _))
end Go.Proofs.Ytfacobejgmnmpaa
