/-
  THE WALK of the law LexReads: whatever the text, it returns true and writes to nothing that was there.
-/
import Derived.Test.YtfmjajmdkndknaaLxRf8
namespace Go.Proofs.Ytfmjajmdkndknaa
open Go.RowKit

set_option maxHeartbeats 2000000 in
theorem reads_ok (a x : ByteArray) (r : List Tok) (n : Nat) (w : World) (C1 : Hid (∀ W, Calls Try.prog 10 #[.string a, .int .i64 4010] W fun e w' => e = .returned (.string x) ∧ W = w'))
    (C2 : Hid (∀ W, Calls Try.prog 11 #[.string x] W (OkPost r n W))) (C3 : Hid (∀ W, Calls Try.prog 12 #[.string x] W (OkPost r n W)))
    (hr : r.length ≤ 4000) (HF : Hid (∀ t ∈ r ++ [endT n], FitT t)) :
    Calls Try.prog 3 #[.string a] w fun e w' => e = .returned (.bool true) ∧ Below w.heap.size w w' := by
  have AW := Lib.hid fun W => awake_any W
  have hlen : Hid ((r ++ [endT n]).length = r.length + 1) := Lib.hid (by simp)
  have hl5 : r.length + 1 ≤ 5000 := by omega
  go_enter Try.func3, Try.ntmps3
  go_wp2_with fail
  refine (C1.out _).mono ?_
  rintro e w1 ⟨rfl, rfl⟩
  go_wp2_with fail
  refine (C2.out _).mono ?_
  rintro e w2 ⟨g, c, rfl, t2, hb2⟩
  have HT := Lib.hid t2
  have HB := Lib.hid hb2
  clear t2 hb2
  go_wp2_with fail
  refine (C3.out _).mono ?_
  rintro e w3 ⟨g2, c2, rfl, t3, hb3⟩
  have HI := Lib.hid (And.intro (HT.out.below hb3 (Nat.le_refl _)) (And.intro t3 (HB.out.trans (hb3.mono HB.out.size))))
  clear t3 hb3 HT HB
  go_wp2_with fail
  refine (AW.out _).mono ?_
  rintro e w4 ⟨rfl, hb4⟩
  have HI4 := Lib.hid (And.intro (HI.out.1.below hb4 (Nat.le_refl _)) (And.intro (HI.out.2.1.below hb4 (Nat.le_refl _)) (HI.out.2.2.trans (hb4.mono HI.out.2.2.size))))
  clear hb4 HI
  go_wp2_with fail
  refine (same_any g c g2 c2 (r.length + 1) (r ++ [endT n]) _ hlen.out hl5 HI4.out.1 HI4.out.2.1).mono ?_
  rintro e w5 ⟨rfl, hb5⟩
  have HI5 := Lib.hid (And.intro (HI4.out.1.below hb5 (Nat.le_refl _)) (And.intro (HI4.out.2.1.below hb5 (Nat.le_refl _)) (HI4.out.2.2.trans (hb5.mono HI4.out.2.2.size))))
  clear hb5 HI4
  go_wp2_with fail
  refine (print_any g c (r.length + 1) (r ++ [endT n]) _ hlen.out hl5 HI5.out.1 HF.out).mono ?_
  rintro e w6 ⟨rfl, hb6⟩
  have HI6 := Lib.hid (And.intro (HI5.out.2.1.below hb6 (Nat.le_refl _)) (HI5.out.2.2.trans (hb6.mono HI5.out.2.2.size)))
  clear hb6 HI5
  generalize hP : (⟨(printL (r ++ [endT n])).toArray⟩ : ByteArray) = P
  go_wp2_with fail
  refine (rprint_any g2 c2 (r.length + 1) (r ++ [endT n]) _ hlen.out hl5 HI6.out.1 HF.out).mono ?_
  rw [hP]
  rintro e w7 ⟨rfl, hb7⟩
  have HB7 := Lib.hid (HI6.out.2.trans (hb7.mono HI6.out.2.size))
  clear hb7 HI6
  go_wp2_with fail
  go_ret
  exact ⟨rfl, HB7.out⟩
set_option maxHeartbeats 2000000 in
theorem reads_err (a x : ByteArray) (p q : Int) (w : World) (C1 : Hid (∀ W, Calls Try.prog 10 #[.string a, .int .i64 4010] W fun e w' => e = .returned (.string x) ∧ W = w'))
    (C2 : Hid (∀ W, Calls Try.prog 11 #[.string x] W fun e w' => e = .returned (.tuple #[.slice none 0 0, .int .i64 p, .int .i64 q]) ∧ Below W.heap.size W w'))
    (C3 : Hid (∀ W, Calls Try.prog 12 #[.string x] W fun e w' => e = .returned (.tuple #[.slice none 0 0, .int .i64 p, .int .i64 q]) ∧ Below W.heap.size W w')) :
    Calls Try.prog 3 #[.string a] w fun e w' => e = .returned (.bool true) ∧ Below w.heap.size w w' := by
  have AW := Lib.hid fun W => awake_any W
  have S1 := Lib.hid fun W => same_nil W
  have P1 := Lib.hid fun W => print_nil W
  have P2 := Lib.hid fun W => rprint_nil W
  go_enter Try.func3, Try.ntmps3
  go_wp2_with fail
  refine (C1.out _).mono ?_
  rintro e w1 ⟨rfl, rfl⟩
  go_wp2_with fail
  refine (C2.out _).mono ?_
  rintro e w2 ⟨rfl, hb2⟩
  have HB2 := Lib.hid hb2
  clear hb2
  go_wp2_with fail
  refine (C3.out _).mono ?_
  rintro e w3 ⟨rfl, hb3⟩
  have HB3 := Lib.hid (HB2.out.trans (hb3.mono HB2.out.size))
  clear hb3 HB2
  go_wp2_with fail
  refine (AW.out _).mono ?_
  rintro e w4 ⟨rfl, hb4⟩
  have HB4 := Lib.hid (HB3.out.trans (hb4.mono HB3.out.size))
  clear hb4 HB3
  go_wp2_with fail
  refine (S1.out _).mono ?_
  rintro e w5 ⟨rfl, hb5⟩
  have HB5 := Lib.hid (HB4.out.trans (hb5.mono HB4.out.size))
  clear hb5 HB4
  go_wp2_with fail
  refine (P1.out _).mono ?_
  rintro e w6 ⟨rfl, hb6⟩
  have HB6 := Lib.hid (HB5.out.trans (hb6.mono HB5.out.size))
  clear hb6 HB5
  go_wp2_with fail
  refine (P2.out _).mono ?_
  rintro e w7 ⟨rfl, hb7⟩
  have HB7 := Lib.hid (HB6.out.trans (hb7.mono HB6.out.size))
  clear hb7 HB6
  go_wp2_with fail
  go_ret
  exact ⟨rfl, HB7.out⟩
theorem reads_walk (a : ByteArray) (ha : a.size ≤ maxLen) (w : World) :
    Calls Try.prog 3 #[.string a] w fun e w' => e = .returned (.bool true) ∧ Below w.heap.size w w' := by
  have C1 := Lib.hid fun W => cut_any a 4010 W ha (by decide)
  generalize cutB a 4010 = x at *
  by_cases hx : x.size ≤ 4000
  · cases hl : lexL x.data.toList with
    | ok r =>
      have hrl := lex_len hl
      rw [ba_sz] at hrl
      exact reads_ok a x r x.size w C1 (Lib.hid fun W => lex_ok x r W hx hl) (Lib.hid fun W => rlex_ok x r W hx hl) (by omega) (Lib.hid (lex_fit hl (by rw [ba_sz]; exact hx) _))
    | error p => exact reads_err a x p 9 w C1 (Lib.hid fun W => lex_err x p W hx hl) (Lib.hid fun W => rlex_err x p W hx hl)
  · exact reads_err a x 0 12 w C1 (Lib.hid fun W => lex_big x W (by omega)) (Lib.hid fun W => rlex_big x W (by omega))
end Go.Proofs.Ytfmjajmdkndknaa
