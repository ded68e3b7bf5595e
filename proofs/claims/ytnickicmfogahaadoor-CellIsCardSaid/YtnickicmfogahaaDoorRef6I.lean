/-
  CONTRACTS of the document's own answer for a text from outside (scriberef06.Input) and of the statements' own Told: what each hands back; nothing that was there is written.
-/
import Derived.Test.YtnickicmfogahaaDoorRef5L
import Derived.Test.YtnickicmfogahaaDoorCellW3
namespace Go.Proofs.YtnickicmfogahaaDoor
open Go.RowKit

theorem told_any (k n : Int) (s : ByteArray) (w : World) :
    Calls Tryd.prog 6 #[.agg #[.int .i64 k, .int .i64 n, .string s]] w fun e w' => e = .returned (.agg #[.int .i64 k, .int .i64 n, .string s]) ∧ Below w.heap.size w w' := by
  go_enter Tryd.func6, Tryd.ntmps6
  go_wp2_with fail
  refine bodyPost_ret (v := .agg #[.int .i64 k, .int .i64 n, .string s]) ?_ rfl ⟨rfl, ?_⟩
  · simp [results, Tryd.results6, go_sem]
  · exact ((Below.refl _ _).alloc (Nat.le_refl _) _).alloc (by simp) _
theorem rinput_any (s : ByteArray) (w : World) (hs : s.size ≤ 1000000) :
    Calls Tryd.prog 20 #[.string s] w fun e w' => e = .returned (.agg #[.int .i64 (inK s.data.toList), .int .i64 (inN s.data.toList), .string s]) ∧ Below w.heap.size w w' := by
  have c1 := fun W => rlooks_any s W hs
  unfold inK inN
  generalize (looksL s.data.toList).1 = v at *
  generalize (looksL s.data.toList).2 = b at *
  have C1 := Lib.hid c1
  clear c1
  cases b
  · go_enter Tryd.func20, Tryd.ntmps20
    go_wp2_with fail
    refine (C1.out _).mono ?_
    rintro e w1 ⟨rfl, rfl⟩
    go_wp2_with fail
    refine bodyPost_ret (v := .agg #[.int .i64 2, .int .i64 0, .string s]) ?_ rfl ⟨rfl, (Below.refl _ _).alloc (Nat.le_refl _) _⟩
    simp [results, Tryd.results20, go_sem]
  · go_enter Tryd.func20, Tryd.ntmps20
    go_wp2_with fail
    refine (C1.out _).mono ?_
    rintro e w1 ⟨rfl, rfl⟩
    go_wp2_with fail
    refine bodyPost_ret (v := .agg #[.int .i64 3, .int .i64 v, .string s]) ?_ rfl ⟨rfl, (Below.refl _ _).alloc (Nat.le_refl _) _⟩
    simp [results, Tryd.results20, go_sem]
end Go.Proofs.YtnickicmfogahaaDoor
