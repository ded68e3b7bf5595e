/-
 WHAT THE ROWS OF LAYER 13 SHARE: their listed tables as the walks want them, a world for the witness in which they lie.
-/
import Derived.Test.YtmbfdkiejneheaaGreatDoorCards
import Derived.Test.YtmbfdkiejneheaaGreatDoorTie
import Derived.Test.YtmbfdkiejneheaaGreatDoorAnPr
import Derived.Deep.Slices
import Derived.ChangeSame
import Derived.Carry
import Derived.WalkKit
import Derived.ProofKit
import Derived.OpenShut
import Derived.ShutString
import Derived.Deep.DeepHandedRow
import Derived.Lib.LaidTab
import Derived.WalkSmall
import Derived.ChangeOld
namespace Go.Proofs.YtmbfdkiejneheaaGreatDoor.PaDoor
open Go.ChangeShapes Go.WideShapes Go.ChangeAt Go.RowKit

theorem own : ownKnob Tryz.prog.godebug = none := by kernel_rfl
theorem gTab : Tryz.prog.globalNamed "internal/strconv.uint64pow10" = some 0 := by kernel_rfl
theorem gTabType : (Tryz.prog.globals[0]?).map (·.type) = some 87 := by kernel_rfl
theorem cellsA : Tryz.prog.cellsOf 87 = 20 := by kernel_rfl
theorem cellsE : Tryz.prog.cellsOf 74 = 1 := by kernel_rfl
theorem datum : (Rows.laid_internal_strconv_uint64pow10 : DataW Unit) = Lib.tabData .u64 Lib.pow10Tab := by kernel_rfl
def laid3 : List (String × DataW Unit) := [("math/bits.deBruijn32tab", Rows.laid_math_bits_deBruijn32tab), ("math/bits.deBruijn64tab", Rows.laid_math_bits_deBruijn64tab), ("internal/strconv.uint64pow10", Rows.laid_internal_strconv_uint64pow10)]

theorem laidOut : laidOutB Tryz.prog = true := by kernel_rfl
theorem table {W : World} (h : laidMet Tryz.prog laid3 W) : Lib.TabIs Tryz.prog W "internal/strconv.uint64pow10" .u64 Lib.pow10Tab := by
 obtain ⟨ps, ⟨g0, t0, cs0, f0, p0, q0, hg0, ht0, hv0, hd0, ⟨g1, t1, cs1, f1, p1, q1, hg1, ht1, hv1, hd1, ⟨g', t', cs, fuel, p, q, hg', ht', hvar, hd, _, _⟩, _⟩, _⟩, _⟩ := h
 obtain rfl := Option.some.inj (gTab.symm.trans hg')
 obtain rfl := Option.some.inj (gTabType.symm.trans ht')
 rw [datum] at hd
 unfold Lib.TabIs
 rw [hvar, ← Lib.cells_of_tab Tryz.underlying87 Tryz.underlying74 cellsE cellsA hd]
theorem below {W : World} {B : Nat} (h : Lib.TabIs Tryz.prog W "internal/strconv.uint64pow10" .u64 Lib.pow10Tab) (hB : 0 < B) : Lib.TabBelow Tryz.prog B W "internal/strconv.uint64pow10" .u64 Lib.pow10Tab :=
 fun _ hb => var?_below hb gTab hB h
theorem lies {W : World} (h : Lib.TabIs Tryz.prog W "internal/strconv.uint64pow10" .u64 Lib.pow10Tab) : 0 < W.heap.size := by
 have := h.cell gTab 0 (by decide)
 exact World.block_lt_of_cell? _ _ this

def tab32 : List Int := [0,1,28,2,29,14,24,3,30,22,20,15,25,17,4,8,31,27,13,23,21,19,16,7,26,12,18,6,11,5,10,9]
def tab64 : List Int := [0,1,56,2,57,49,28,3,61,58,42,50,38,29,17,4,62,47,59,36,45,43,51,22,53,39,33,30,24,18,12,5,63,55,48,27,60,41,37,16,46,35,44,21,52,32,23,11,54,26,40,15,34,20,31,10,25,14,19,9,13,8,7,6]
def lay (xs : Array Value) : Obj → Obj
 | .cells _ t frozen => .cells xs t frozen
 | o => o
noncomputable def laidWorld (os : Os) : World :=
 { World.holding Tryz.prog os ⟨#[], #[], []⟩ with heap := (((World.holding Tryz.prog os ⟨#[], #[], []⟩).heap.modify 0 (lay (Lib.pow10Tab.map (Value.int .u64)).toArray)).modify 2 (lay (tab32.map (Value.int .u8)).toArray)).modify 3 (lay (tab64.map (Value.int .u8)).toArray) }
theorem facts {W : World} (hL : laidMet Tryz.prog laid3 W) (_hS : W.ShapedOpen Tryz.prog) : Lib.TabBelow Tryz.prog W.heap.size W "internal/strconv.uint64pow10" .u64 Lib.pow10Tab := below (table hL) (lies (table hL))
end Go.Proofs.YtmbfdkiejneheaaGreatDoor.PaDoor
