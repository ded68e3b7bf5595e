/-
  HOW A VALUE OF LAYER 6, handed over by value, reads as data: a struct of a kind, a number and a text.
-/
import Derived.Test.YtipcanbeegladaaGreatDoorNDoor
import Derived.Test.YtipcanbeegladaaGreatDoorCellW1
import Derived.Deep.Fields
namespace Go.Proofs.YtipcanbeegladaaGreatDoor
open Go.ChangeShapes Go.WideShapes Go.ChangeAt Go.RowKit

section
variable {H : Type} {enc : TypeId × Value → H} {P : Program} {w : World} {base b0 : Nat} {spare : Nat → Bool} {held : Bool}
def cvData {H : Type} (k n : Int) (s : ByteArray) : DataW H := .agg [.lit (.int .i64 k), .lit (.int .i64 n), .lit (.string s.data.toList)]
/-- A struct of two integers and a text, opened. -/
theorem open_c3 {t : TypeId} {f0 f1 f2 : Field} {v : Value} {d : DataW H} {ps : List MemPlace} (ht : P.underlying t = some (.struct #[f0, f1, f2])) (hc : P.cellsOf t = 3)
    (o0 : f0.offset = 0) (c0 : P.cellsOf f0.type = 1) (u0 : P.underlying f0.type = some (.int .i64)) (o1 : f1.offset = 1) (c1 : P.cellsOf f1.type = 1) (u1 : P.underlying f1.type = some (.int .i64)) (o2 : f2.offset = 2) (c2 : P.cellsOf f2.type = 1) (u2 : P.underlying f2.type = some .string)
    (hval : Value.okWide P w .any b0 t v) (h : DataW.Trod enc P w base spare held t v d ps) :
    ∃ (k n : Int) (s : ByteArray), v = .agg #[.int .i64 k, .int .i64 n, .string s] ∧ d = cvData k n s ∧ ps = [] ∧ ((Lit.int .i64 k).wf = true ∧ (Lit.int .i64 n).wf = true ∧ s.size ≤ maxLen) := by
  simp only [Value.okWide, ht] at hval
  obtain ⟨cs, rfl, hsz, _⟩ := hval
  rw [hc] at hsz
  obtain ⟨a, b, c, rfl⟩ : ∃ a b c, cs = #[a, b, c] := by
    obtain ⟨l⟩ := cs
    match l, hsz with
    | [a, b, c], _ => exact ⟨a, b, c, rfl⟩
  obtain ⟨fuel, h⟩ := h
  cases fuel with
  | zero => simp [DataW.trod] at h
  | succ m =>
    simp [DataW.trod, ht, Value.cells, hc, o0, o1, o2, c0, c1, c2] at h
    cases h0 : DataW.trod enc P w base spare held m f0.type [a] with
    | none => simp [h0] at h
    | some x0 =>
      cases h1 : DataW.trod enc P w base spare held m f1.type [b] with
      | none => simp [h0, h1] at h
      | some x1 =>
        cases h2 : DataW.trod enc P w base spare held m f2.type [c] with
        | none => simp [h0, h1, h2] at h
        | some x2 =>
          simp [h0, h1, h2] at h
          obtain ⟨k, e0, rfl, wk⟩ := DataW.trod_int u0 h0
          obtain ⟨n, e1, rfl, wn⟩ := DataW.trod_int u1 h1
          obtain ⟨s, e2, rfl, ws⟩ := DataW.trod_string u2 h2
          obtain rfl : a = .int .i64 k := by simpa using e0
          obtain rfl : b = .int .i64 n := by simpa using e1
          obtain rfl : c = .string s := by simpa using e2
          obtain ⟨rfl, rfl⟩ := h
          exact ⟨k, n, s, rfl, rfl, rfl, wk, wn, ws⟩
/-- .. and shut. -/
theorem shut_c3 {t : TypeId} {f0 f1 f2 : Field} {k n : Int} {s : ByteArray} (ht : P.underlying t = some (.struct #[f0, f1, f2])) (hc : P.cellsOf t = 3)
    (o0 : f0.offset = 0) (c0 : P.cellsOf f0.type = 1) (u0 : P.underlying f0.type = some (.int .i64)) (o1 : f1.offset = 1) (c1 : P.cellsOf f1.type = 1) (u1 : P.underlying f1.type = some (.int .i64)) (o2 : f2.offset = 2) (c2 : P.cellsOf f2.type = 1) (u2 : P.underlying f2.type = some .string)
    (hk : (Lit.int .i64 k).wf = true) (hn : (Lit.int .i64 n).wf = true) (hs : s.size ≤ maxLen) :
    DataW.Trod enc P w base spare held t (.agg #[.int .i64 k, .int .i64 n, .string s]) (cvData k n s) [] := by
  refine ⟨2, ?_⟩
  simp [DataW.trod, ht, Value.cells, hc, o0, o1, o2, c0, c1, c2, u0, u1, u2, hk, hn, hs, cvData]
end
set_option maxRecDepth 100000 in
theorem open_cell {H : Type} {enc : TypeId × Value → H} {w : World} {base b0 : Nat} {spare : Nat → Bool} {held : Bool} {v : Value} {d : DataW H} {ps : List MemPlace} (hval : Value.okWide Tryz.prog w .any b0 36 v) (h : DataW.Trod enc Tryz.prog w base spare held 36 v d ps) :
    ∃ (k n : Int) (s : ByteArray), v = cv k n s ∧ d = cvData k n s ∧ ps = [] ∧ ((Lit.int .i64 k).wf = true ∧ (Lit.int .i64 n).wf = true ∧ s.size ≤ maxLen) :=
  open_c3 Tryz.underlying36 (by kernel_rfl) rfl (by kernel_rfl) Tryz.underlying3 rfl (by kernel_rfl) Tryz.underlying34 rfl (by kernel_rfl) Tryz.underlying9 hval h
set_option maxRecDepth 100000 in
theorem shut_cell {H : Type} {enc : TypeId × Value → H} {w : World} {base : Nat} {spare : Nat → Bool} {held : Bool} {k n : Int} {s : ByteArray} (hw : (Lit.int .i64 k).wf = true ∧ (Lit.int .i64 n).wf = true ∧ s.size ≤ maxLen) :
    DataW.Trod enc Tryz.prog w base spare held 36 (cv k n s) (cvData k n s) [] :=
  shut_c3 Tryz.underlying36 (by kernel_rfl) rfl (by kernel_rfl) Tryz.underlying3 rfl (by kernel_rfl) Tryz.underlying34 rfl (by kernel_rfl) Tryz.underlying9 hw.1 hw.2.1 hw.2.2
end Go.Proofs.YtipcanbeegladaaGreatDoor
