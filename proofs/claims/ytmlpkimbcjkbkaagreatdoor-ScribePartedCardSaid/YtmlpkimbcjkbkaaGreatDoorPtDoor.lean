/-
  WHAT THE ROW ScribeParted LISTS, as its walk wants it: the journal's variables, and the table of trailing zeros.
-/
import Derived.Test.YtmlpkimbcjkbkaaGreatDoorCards
import Derived.Test.YtmlpkimbcjkbkaaGreatDoorTie
import Derived.Test.YtmlpkimbcjkbkaaGreatDoorJCode
import Derived.WalkKit
import Derived.ProofKit
import Derived.OpenShut
import Derived.ShutString
import Derived.Deep.DeepHandedRow
import Derived.Lib.LaidTab
import Derived.WalkSmall
import Derived.ChangeOld
import Derived.Stop.LaidErr
import Derived.Test.YtmlpkimbcjkbkaaGreatDoorMtW1
namespace Go.Proofs.YtmlpkimbcjkbkaaGreatDoor.JDoor
open Go.ChangeShapes Go.WideShapes Go.ChangeAt Go.RowKit

theorem own : ownKnob Tryz.prog.godebug = none := by kernel_rfl
theorem gTab : Tryz.prog.globalNamed "internal/strconv.uint64pow10" = some 2 := by kernel_rfl
theorem gTabType : (Tryz.prog.globals[2]?).map (·.type) = some 169 := by kernel_rfl
theorem cellsA : Tryz.prog.cellsOf 169 = 20 := by kernel_rfl
theorem cellsE : Tryz.prog.cellsOf 40 = 1 := by kernel_rfl
theorem datum : (Rows.laid_internal_strconv_uint64pow10 : DataW Unit) = Lib.tabData .u64 Lib.pow10Tab := by kernel_rfl
theorem gS : Tryz.prog.globalNamed "strconv.ErrSyntax" = some 3 := by kernel_rfl
theorem gSType : (Tryz.prog.globals[3]?).map (·.type) = some 139 := by kernel_rfl
theorem gR : Tryz.prog.globalNamed "strconv.ErrRange" = some 4 := by kernel_rfl
theorem gRType : (Tryz.prog.globals[4]?).map (·.type) = some 139 := by kernel_rfl
theorem star : "*" ++ "errors.errorString" = "*errors.errorString" := by decide
theorem rowE (u : TypeId) (h : Tryz.prog.typeName? 3 u = some "*errors.errorString") : u = 181 :=
  typeName_ptr_named (nm := "errors.errorString") (by rw [star]; kernel_rfl) (by kernel_rfl) (by decide) u (by rw [star]; exact h)
theorem cells1 : Tryz.prog.cellsOf 183 = 1 := by kernel_rfl
theorem cells2 : Tryz.prog.cellsOf 9 = 1 := by kernel_rfl
/-- The list that every row of this seat bears. -/
def laid5 : List (String × DataW Unit) := [("math/bits.deBruijn32tab", Rows.laid_math_bits_deBruijn32tab), ("math/bits.deBruijn64tab", Rows.laid_math_bits_deBruijn64tab), ("internal/strconv.uint64pow10", Rows.laid_internal_strconv_uint64pow10), ("strconv.ErrRange", Rows.laid_strconv_ErrRange), ("strconv.ErrSyntax", Rows.laid_strconv_ErrSyntax)]

/-- WHAT THE ROW's LIST GIVES: the table of powers of ten holds them; the two errors are there; and MaxLen holds some int. -/
theorem facts {W : World} (h : laidMet Tryz.prog laid5 W) (hS : W.ShapedOpen Tryz.prog) : Gl W := by
  have h3 := h.tail.tail
  have h4 := h3.tail
  have h5 := h4.tail
  obtain ⟨a1, s1, hv1, _⟩ := laid_sentinel h4 gR gRType Tryz.underlying139 rowE Tryz.underlying181 Tryz.underlying183 rfl rfl Tryz.underlying9 cells1 cells2
  obtain ⟨a2, s2, hv2, _⟩ := laid_sentinel h5 gS gSType Tryz.underlying139 rowE Tryz.underlying181 Tryz.underlying183 rfl rfl Tryz.underlying9 cells1 cells2
  have hT : Lib.TabIs Tryz.prog W "internal/strconv.uint64pow10" .u64 Lib.pow10Tab := by
    obtain ⟨ps, ⟨g', t', cs, fuel, p, q, hg', ht', hvar, hd, _, _⟩, _⟩ := h3
    obtain rfl := Option.some.inj (gTab.symm.trans hg')
    obtain rfl := Option.some.inj (gTabType.symm.trans ht')
    rw [datum] at hd
    unfold Lib.TabIs
    rw [hvar, ← Lib.cells_of_tab Tryz.underlying169 Tryz.underlying40 cellsE cellsA hd]
  have lies : 2 < W.heap.size := World.block_lt_of_cell? _ _ (hT.cell gTab 0 (by decide))
  exact ⟨fun _ hb => var?_below hb gTab lies hT, Tryz.laysM145.s1_3 W hS, ⟨_, _, by have h0 := World.var?_cell gS hv2 0; simpa using h0⟩, ⟨_, _, by have h0 := World.var?_cell gR hv1 0; simpa using h0⟩⟩

def tab32 : List Int := [0, 1, 28, 2, 29, 14, 24, 3, 30, 22, 20, 15, 25, 17, 4, 8, 31, 27, 13, 23, 21, 19, 16, 7, 26, 12, 18, 6, 11, 5, 10, 9]
def tab64 : List Int := [0, 1, 56, 2, 57, 49, 28, 3, 61, 58, 42, 50, 38, 29, 17, 4, 62, 47, 59, 36, 45, 43, 51, 22, 53, 39, 33, 30, 24, 18, 12, 5, 63, 55, 48, 27, 60, 41, 37, 16, 46, 35, 44, 21, 52, 32, 23, 11, 54, 26, 40, 15, 34, 20, 31, 10, 25, 14, 19, 9, 13, 8, 7, 6]
abbrev rangeS : ByteArray := { data := #[118, 97, 108, 117, 101, 32, 111, 117, 116, 32, 111, 102, 32, 114, 97, 110, 103, 101] }
abbrev syntaxS : ByteArray := { data := #[105, 110, 118, 97, 108, 105, 100, 32, 115, 121, 110, 116, 97, 120] }
def lay (xs : Array Value) : Obj → Obj
  | .cells _ t frozen => .cells xs t frozen
  | o => o
noncomputable def low : Nat := (World.holding Tryz.prog default ⟨#[], #[], []⟩).heap.size
/-- A WORLD FOR THE WITNESS: the settled one, the five variables holding what their initialisers lay. -/
noncomputable def laidWorld (os : Os) : World :=
  let w0 := World.holding Tryz.prog os ⟨#[.cells #[.string rangeS] 183, .cells #[.string syntaxS] 183], #[], []⟩
  { w0 with heap := ((((w0.heap.modify 2 (lay (Lib.pow10Tab.map (Value.int .u64)).toArray)).modify 5 (lay (tab32.map (Value.int .u8)).toArray)).modify 0 (lay (tab64.map (Value.int .u8)).toArray)).modify 4 (lay #[.iface 181 (.pointer (some ⟨low, 0, none⟩))])).modify 3 (lay #[.iface 181 (.pointer (some ⟨low + 1, 0, none⟩))]) }
end Go.Proofs.YtmlpkimbcjkbkaaGreatDoor.JDoor

namespace Go.Proofs.YtmlpkimbcjkbkaaGreatDoor.PtDoor
open Go.ChangeShapes Go.WideShapes Go.ChangeAt Go.RowKit

theorem gTz : Tryz.prog.globalNamed "math/bits.deBruijn64tab" = some 0 := by kernel_rfl
theorem gTzType : (Tryz.prog.globals[0]?).map (·.type) = some 152 := by kernel_rfl
theorem cellsZ : Tryz.prog.cellsOf 152 = 64 := by kernel_rfl
theorem cellsB : Tryz.prog.cellsOf 5 = 1 := by kernel_rfl
theorem datumZ : (Rows.laid_math_bits_deBruijn64tab : DataW Unit) = Lib.tabData .u8 JDoor.tab64 := by kernel_rfl
theorem tab_same : ∀ j : Fin 64, JDoor.tab64.getD j.1 0 = ((Lib.deBruijn64tab.getD j.1 0 : Nat) : Int) := by decide +kernel
/-- WHAT THE ROW's LIST GIVES: the journal's facts, and the table of trailing zeros. -/
theorem facts {W : World} (h : laidMet Tryz.prog JDoor.laid5 W) (hS : W.ShapedOpen Tryz.prog) : Gl W ∧ Dz W := by
  refine ⟨JDoor.facts h hS, ?_⟩
  have hT : Lib.TabIs Tryz.prog W "math/bits.deBruijn64tab" .u8 JDoor.tab64 := by
    obtain ⟨ps, ⟨g', t', cs, fuel, p, q, hg', ht', hvar, hd, _, _⟩, _⟩ := h.tail
    obtain rfl := Option.some.inj (gTz.symm.trans hg')
    obtain rfl := Option.some.inj (gTzType.symm.trans ht')
    rw [datumZ] at hd
    unfold Lib.TabIs
    rw [hvar, ← Lib.cells_of_tab Tryz.underlying152 Tryz.underlying5 cellsB cellsZ hd]
  intro j hj
  have h1 := hT.cell gTz j (by simp [JDoor.tab64]; omega)
  rw [tab_same ⟨j, hj⟩] at h1
  exact h1
end Go.Proofs.YtmlpkimbcjkbkaaGreatDoor.PtDoor
