/-
  CONTRACTS of the document's own answers for layer 6: a value as a number, as a text (scriberef06.Num, Str); nothing that was there is written.
-/
import Derived.Test.YtipcanbeegladaaGreatDoorRef5L
import Derived.Test.YtipcanbeegladaaGreatDoorCellW2
namespace Go.Proofs.YtipcanbeegladaaGreatDoor
open Go.RowKit

theorem rnum_any (k n : Int) (s : ByteArray) (w : World) (hs : s.size ≤ 1000000) :
    Calls Tryz.prog 34 #[.agg #[.int .i64 k, .int .i64 n, .string s]] w fun e w' => e = .returned (.int .i64 (numC k n s)) ∧ Below w.heap.size w w' := by
  unfold numC
  by_cases h2 : k = 2
  · subst h2
    have C1 : Hid (∀ W, Calls Tryz.prog 55 #[.string s] W fun e w' => e = .returned (.tuple #[.int .i64 (prefixL s.data.toList).1, .int .i64 ((prefixL s.data.toList).2 : Int)]) ∧ W = w') := Lib.hid fun W => rprefix_any s W hs
    go_enter Tryz.func34, Tryz.ntmps34
    go_wp2_with fail
    refine (C1.out _).mono ?_
    rintro e w1 ⟨rfl, rfl⟩
    go_wp2_with fail
    go_ret
    exact ⟨rfl, (Below.refl _ _).alloc (Nat.le_refl _) _⟩
  · have e2 : (k == 2) = false := by simpa using h2
    go_enter Tryz.func34, Tryz.ntmps34
    go_wp2_with fail
    go_ret
    exact ⟨ret_i (by simp), (Below.refl _ _).alloc (Nat.le_refl _) _⟩
theorem rstr_any (k n : Int) (s : ByteArray) (w : World) (hn : k = 1 → OkN n) :
    Calls Tryz.prog 41 #[.agg #[.int .i64 k, .int .i64 n, .string s]] w fun e w' => e = .returned (.string (strC k n s)) ∧ Below w.heap.size w w' := by
  unfold strC
  by_cases h1 : k = 1
  · subst h1
    have C1 := Lib.hid fun W => rtext_any n W (hn rfl)
    clear hn
    go_enter Tryz.func41, Tryz.ntmps41
    go_wp2_with fail
    refine (C1.out _).mono ?_
    rintro e w1 ⟨rfl, hb1⟩
    have HB1 := Lib.hid (below_new hb1)
    clear hb1
    go_wp2_with fail
    go_ret
    exact ⟨rfl, HB1.out⟩
  · have e1 : (k == 1) = false := by simpa using h1
    go_enter Tryz.func41, Tryz.ntmps41
    go_wp2_with fail
    go_ret
    exact ⟨ret_s (by simp), (Below.refl _ _).alloc (Nat.le_refl _) _⟩
end Go.Proofs.YtipcanbeegladaaGreatDoor
