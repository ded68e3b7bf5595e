/-
  WHAT THE ROWS OF LAYER 10 SHARE: their listed table as the walks want it, a world for the witness in which it lies.
-/
import Derived.Test.YtjjejcgpeefclaaDoorCards
import Derived.Test.YtjjejcgpeefclaaDoorTie
import Derived.Test.YtjjejcgpeefclaaDoorMtW1
import Derived.WalkKit
import Derived.ProofKit
import Derived.OpenShut
import Derived.ShutString
import Derived.Deep.DeepHandedRow
import Derived.Lib.LaidTab
import Derived.WalkSmall
import Derived.ChangeOld
namespace Go.Proofs.YtjjejcgpeefclaaDoor.MtDoor
open Go.ChangeShapes Go.WideShapes Go.ChangeAt Go.RowKit

theorem own : ownKnob Tryd.prog.godebug = none := by kernel_rfl
theorem gTz : Tryd.prog.globalNamed "math/bits.deBruijn64tab" = some 0 := by kernel_rfl
theorem gTzType : (Tryd.prog.globals[0]?).map (·.type) = some 136 := by kernel_rfl
theorem cellsZ : Tryd.prog.cellsOf 136 = 64 := by kernel_rfl
theorem cellsB : Tryd.prog.cellsOf 5 = 1 := by kernel_rfl
def tab64 : List Int := [0, 1, 56, 2, 57, 49, 28, 3, 61, 58, 42, 50, 38, 29, 17, 4, 62, 47, 59, 36, 45, 43, 51, 22, 53, 39, 33, 30, 24, 18, 12, 5, 63, 55, 48, 27, 60, 41, 37, 16, 46, 35, 44, 21, 52, 32, 23, 11, 54, 26, 40, 15, 34, 20, 31, 10, 25, 14, 19, 9, 13, 8, 7, 6]
theorem datumZ : (Rows.laid_math_bits_deBruijn64tab : DataW Unit) = Lib.tabData .u8 tab64 := by kernel_rfl
/-- The list that every row of this seat bears. -/
def laid1 : List (String × DataW Unit) := [("math/bits.deBruijn64tab", Rows.laid_math_bits_deBruijn64tab)]
theorem tab_same : ∀ j : Fin 64, tab64.getD j.1 0 = ((Lib.deBruijn64tab.getD j.1 0 : Nat) : Int) := by decide +kernel
/-- WHAT THE ROW's LIST GIVES: the table of trailing zeros holds them. -/
theorem facts {W : World} (h : laidMet Tryd.prog laid1 W) (_hS : W.ShapedOpen Tryd.prog) : Dz W := by
  have hT : Lib.TabIs Tryd.prog W "math/bits.deBruijn64tab" .u8 tab64 := by
    obtain ⟨ps, ⟨g', t', cs, fuel, p, q, hg', ht', hvar, hd, _, _⟩, _⟩ := h
    obtain rfl := Option.some.inj (gTz.symm.trans hg')
    obtain rfl := Option.some.inj (gTzType.symm.trans ht')
    rw [datumZ] at hd
    unfold Lib.TabIs
    rw [hvar, ← Lib.cells_of_tab Tryd.underlying136 Tryd.underlying5 cellsB cellsZ hd]
  intro j hj
  have h1 := hT.cell gTz j (by simp [tab64]; omega)
  rw [tab_same ⟨j, hj⟩] at h1
  exact h1
def lay (xs : Array Value) : Obj → Obj
  | .cells _ t frozen => .cells xs t frozen
  | o => o
/-- A WORLD FOR THE WITNESS: the settled one, the table holding what its initialiser lays. -/
noncomputable def laidWorld (os : Os) : World :=
  let w0 := World.holding Tryd.prog os ⟨#[], #[], []⟩
  { w0 with heap := w0.heap.modify 0 (lay (tab64.map (Value.int .u8)).toArray) }
end Go.Proofs.YtjjejcgpeefclaaDoor.MtDoor
