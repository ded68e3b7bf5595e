/-
  CONTRACTS of layer 6's calls on one value (cell.Of, Int, Bool, Text, Input, Good, Num, Str, True, text): what each hands back; nothing that was there is written. Condition where a number is made a text: the library's table of powers of ten is as it was laid.
-/
import Derived.Test.YtipcanbeegladaaGreatDoorNumLk
import Derived.Test.YtipcanbeegladaaGreatDoorCutA
import Derived.Deep.QuietTactic
import Derived.BigQuiet
namespace Go.Proofs.YtipcanbeegladaaGreatDoor
open Go.RowKit

/-- A value of the language, as the model has it. -/
def cv (k n : Int) (s : ByteArray) : Value := .agg #[.int .i64 k, .int .i64 n, .string s]
theorem bcell {W w1 : World} (hb : Below W.heap.size W w1) : (∀ b o, b < W.heap.size → w1.cell? ⟨b, o, none⟩ = W.cell? ⟨b, o, none⟩) ∧ (∀ b o, b < W.heap.size → w1.frozen? ⟨b, o, none⟩ = W.frozen? ⟨b, o, none⟩) :=
  ⟨fun b o h => hb.cell (p := ⟨b, o, none⟩) h, fun b o h => hb.frozen (p := ⟨b, o, none⟩) h⟩
theorem below_set3 {w w1 : World} (hb : Below w.heap.size w w1) (x y z : Value) : Below w.heap.size w (((w1.setCell ⟨w.heap.size, 0, none⟩ x).setCell ⟨w.heap.size, 1, none⟩ y).setCell ⟨w.heap.size, 2, none⟩ z) :=
  ((hb.setCell (Nat.le_refl _) _).setCell (Nat.le_refl _) _).setCell (Nat.le_refl _) _
theorem below_new {w w1 : World} {o : Obj} (hb : Below (w.alloc o).heap.size (w.alloc o) w1) : Below w.heap.size w w1 :=
  ((Below.refl _ _).alloc (Nat.le_refl _) _).trans (hb.mono (by simp))
theorem clone_any (s : ByteArray) (w : World) (hs : s.size ≤ 281474976710656) :
    Calls Tryz.prog 43 #[.string s] w fun e w' => e = .returned (.string s) ∧ Below w.heap.size w w' := by
  go_enter Tryz.func43, Tryz.ntmps43
  go_wp2_with (go_at_call 58; refine (Tryz.stringslite_Clone s _ hs).mono ?_; rintro e w' ⟨rfl, hb⟩)
  go_ret
  exact ⟨rfl, hb⟩
theorem of_any (n : Int) (w : World) :
    Calls Tryz.prog 17 #[.int .i64 n] w fun e w' => e = .returned (cv 1 n ⟨#[]⟩) ∧ Below w.heap.size w w' := by
  go_enter Tryz.func17, Tryz.ntmps17
  go_wp2
  refine bodyPost_ret (v := cv 1 n ⟨#[]⟩) ?_ rfl ⟨rfl, ?_⟩
  · simp [results, Tryz.results17, go_sem, cv]
  · exact (Below.refl _ _).alloc (Nat.le_refl _) _
set_option maxHeartbeats 1000000 in
theorem text_mk (s : ByteArray) (w : World) (hs : s.size ≤ 281474976710656) :
    Calls Tryz.prog 19 #[.string s] w fun e w' => e = .returned (cv 2 0 s) ∧ Below w.heap.size w w' := by
  go_enter Tryz.func19, Tryz.ntmps19
  go_wp2_with fail
  refine (clone_any s _ hs).mono ?_
  rintro e w1 ⟨rfl, hb⟩
  obtain ⟨hc, hf⟩ := bcell hb
  have HB := Lib.hid hb
  clear hb
  go_wp2_with fail
  refine bodyPost_ret (v := cv 2 0 s) ?_ rfl ⟨rfl, below_set3 (below_new HB.out) _ _ _⟩
  simp [results, Tryz.results19, go_sem, cv, hc]
set_option maxHeartbeats 1000000 in
theorem cint_any (n : Int) (w : World) (hn : -9223372036854775808 ≤ n ∧ n ≤ 9223372036854775807) :
    Calls Tryz.prog 18 #[.int .i64 n] w fun e w' => e = .returned (cv 1 (clampI (n * 1000000)) ⟨#[]⟩) ∧ Below w.heap.size w w' := by
  have C1 := Lib.hid fun W => int_any n W hn
  generalize clampI (n * 1000000) = c at *
  clear hn
  go_enter Tryz.func18, Tryz.ntmps18
  go_wp2_with fail
  refine (C1.out _).mono ?_
  rintro e w1 ⟨rfl, hb1⟩
  have HB1 := Lib.hid hb1.below
  clear hb1
  go_wp2_with fail
  refine (of_any c _).mono ?_
  rintro e w2 ⟨rfl, hb2⟩
  have hb := HB1.out.trans (hb2.mono HB1.out.size)
  obtain ⟨hc, hf⟩ := bcell hb
  have HB := Lib.hid hb
  clear hb hb2 HB1
  unfold cv
  go_wp2_with fail
  refine bodyPost_ret (v := cv 1 c ⟨#[]⟩) ?_ rfl ⟨rfl, below_set3 (below_new HB.out) _ _ _⟩
  simp [results, Tryz.results18, go_sem, cv, hc]
/-- What Input makes of a text. -/
def inK (l : List UInt8) : Int := if (looksL l).2 then 3 else 2
def inN (l : List UInt8) : Int := if (looksL l).2 then (looksL l).1 else 0
end Go.Proofs.YtipcanbeegladaaGreatDoor
