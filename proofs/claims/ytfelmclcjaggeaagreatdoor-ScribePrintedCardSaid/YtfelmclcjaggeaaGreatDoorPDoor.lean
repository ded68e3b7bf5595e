/-
  WHAT A ROW THROUGH THE LAYERS (numbers, formats, a journal on a disk) LISTS, as the walks want it; a world for the witness in which it lies.
-/
import Derived.Test.YtfelmclcjaggeaaGreatDoorNDoor
import Derived.Test.YtfelmclcjaggeaaGreatDoorCellOpen
import Derived.Test.YtfelmclcjaggeaaGreatDoorFmtW7
import Derived.Test.YtfelmclcjaggeaaGreatDoorJCode
import Derived.Stop.LaidErr
namespace Go.Proofs.YtfelmclcjaggeaaGreatDoor.PDoor
open Go.ChangeShapes Go.WideShapes Go.ChangeAt Go.RowKit

theorem own : ownKnob Tryz.prog.godebug = none := by kernel_rfl
theorem gTz : Tryz.prog.globalNamed "math/bits.deBruijn64tab" = some 9 := by kernel_rfl
theorem gTzType : (Tryz.prog.globals[9]?).map (·.type) = some 179 := by kernel_rfl
theorem cellsZ : Tryz.prog.cellsOf 179 = 64 := by kernel_rfl
theorem cellsB : Tryz.prog.cellsOf 5 = 1 := by kernel_rfl
theorem datumZ : (Rows.laid_math_bits_deBruijn64tab : DataW Unit) = Lib.tabData .u8 NDoor.tab64 := by kernel_rfl
theorem gS : Tryz.prog.globalNamed "strconv.ErrSyntax" = some 6 := by kernel_rfl
theorem gSType : (Tryz.prog.globals[6]?).map (·.type) = some 125 := by kernel_rfl
theorem gR : Tryz.prog.globalNamed "strconv.ErrRange" = some 7 := by kernel_rfl
theorem gRType : (Tryz.prog.globals[7]?).map (·.type) = some 125 := by kernel_rfl
theorem star : "*" ++ "errors.errorString" = "*errors.errorString" := by decide
theorem rowE (u : TypeId) (h : Tryz.prog.typeName? 3 u = some "*errors.errorString") : u = 175 :=
  typeName_ptr_named (nm := "errors.errorString") (by rw [star]; kernel_rfl) (by kernel_rfl) (by decide) u (by rw [star]; exact h)
theorem cells1 : Tryz.prog.cellsOf 177 = 1 := by kernel_rfl
theorem cells2 : Tryz.prog.cellsOf 9 = 1 := by kernel_rfl
/-- The list that every row of this seat bears. -/
def laid7 : List (String × DataW Unit) := [("math/bits.deBruijn32tab", Rows.laid_math_bits_deBruijn32tab), ("math/bits.deBruijn64tab", Rows.laid_math_bits_deBruijn64tab), ("internal/strconv.uint64pow10", Rows.laid_internal_strconv_uint64pow10), ("unicode/utf8.acceptRanges", Rows.laid_unicode_utf8_acceptRanges), ("strconv.ErrRange", Rows.laid_strconv_ErrRange), ("strconv.ErrSyntax", Rows.laid_strconv_ErrSyntax), ("unicode/utf8.first", Rows.laid_unicode_utf8_first)]
/-- WHAT THE ROW's LIST GIVES: the tables hold what they should; the two errors are there; MaxLen holds some int. -/
theorem facts {W : World} (h : laidMet Tryz.prog laid7 W) (hS : W.ShapedOpen Tryz.prog) : Gf W ∧ J.Gl W := by
  have h2 := h.tail
  have h3 := h2.tail
  have h4 := h3.tail.tail
  have h5 := h4.tail
  obtain ⟨a1, s1, hv1, _⟩ := laid_sentinel h4 gR gRType Tryz.underlying125 rowE Tryz.underlying175 Tryz.underlying177 rfl rfl Tryz.underlying9 cells1 cells2
  obtain ⟨a2, s2, hv2, _⟩ := laid_sentinel h5 gS gSType Tryz.underlying125 rowE Tryz.underlying175 Tryz.underlying177 rfl rfl Tryz.underlying9 cells1 cells2
  have hT : Lib.TabIs Tryz.prog W "internal/strconv.uint64pow10" .u64 Lib.pow10Tab := by
    obtain ⟨ps, ⟨g', t', cs, fuel, p, q, hg', ht', hvar, hd, _, _⟩, _⟩ := h3
    obtain rfl := Option.some.inj (NDoor.gTab.symm.trans hg')
    obtain rfl := Option.some.inj (NDoor.gTabType.symm.trans ht')
    rw [NDoor.datum] at hd
    unfold Lib.TabIs
    rw [hvar, ← Lib.cells_of_tab Tryz.underlying163 Tryz.underlying68 NDoor.cellsE NDoor.cellsA hd]
  have hZ : Lib.TabIs Tryz.prog W "math/bits.deBruijn64tab" .u8 NDoor.tab64 := by
    obtain ⟨ps, ⟨g', t', cs, fuel, p, q, hg', ht', hvar, hd, _, _⟩, _⟩ := h2
    obtain rfl := Option.some.inj (gTz.symm.trans hg')
    obtain rfl := Option.some.inj (gTzType.symm.trans ht')
    rw [datumZ] at hd
    unfold Lib.TabIs
    rw [hvar, ← Lib.cells_of_tab Tryz.underlying179 Tryz.underlying5 cellsB cellsZ hd]
  have hz := hZ.cell gTz 15 (by decide)
  have lies : 5 < W.heap.size := World.block_lt_of_cell? _ _ (hT.cell NDoor.gTab 0 (by decide))
  have ml := Tryz.laysM145.s1_3 W hS
  exact ⟨⟨⟨fun _ hb => var?_below hb NDoor.gTab lies hT⟩, hz, ml⟩, ⟨fun _ hb => var?_below hb NDoor.gTab lies hT, ml, ⟨_, _, by have h0 := World.var?_cell gS hv2 0; simpa using h0⟩, ⟨_, _, by have h0 := World.var?_cell gR hv1 0; simpa using h0⟩⟩⟩

abbrev rangeS : ByteArray := { data := #[118, 97, 108, 117, 101, 32, 111, 117, 116, 32, 111, 102, 32, 114, 97, 110, 103, 101] }
abbrev syntaxS : ByteArray := { data := #[105, 110, 118, 97, 108, 105, 100, 32, 115, 121, 110, 116, 97, 120] }
noncomputable def low : Nat := (World.holding Tryz.prog default ⟨#[], #[], []⟩).heap.size
/-- A WORLD FOR THE WITNESS: the settled one, the seven variables holding what their initialisers lay. -/
noncomputable def laidWorld (os : Os) : World :=
  let w0 := World.holding Tryz.prog os ⟨#[.cells #[.string rangeS] 177, .cells #[.string syntaxS] 177], #[], []⟩
  { w0 with heap := ((((((w0.heap.modify 5 (NDoor.lay (Lib.pow10Tab.map (Value.int .u64)).toArray)).modify 8 (NDoor.lay (NDoor.tab32.map (Value.int .u8)).toArray)).modify 9 (NDoor.lay (NDoor.tab64.map (Value.int .u8)).toArray)).modify 4 (NDoor.lay (NDoor.tabAcc.map (Value.int .u8)).toArray)).modify 3 (NDoor.lay ((Pinned.utf8FirstZ.map fun (n : Nat) => Value.int .u8 ((n : Nat) : Int)) : List Value).toArray)).modify 7 (NDoor.lay #[.iface 175 (.pointer (some ⟨low, 0, none⟩))])).modify 6 (NDoor.lay #[.iface 175 (.pointer (some ⟨low + 1, 0, none⟩))]) }
end Go.Proofs.YtfelmclcjaggeaaGreatDoor.PDoor
