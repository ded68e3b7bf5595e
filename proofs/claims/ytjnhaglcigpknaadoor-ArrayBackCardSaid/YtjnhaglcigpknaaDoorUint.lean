/-
  CONTRACT of strconv.FormatUint at base 10, walked over the library's own text: the decimal digits; nothing that was there is written. Condition: the library's table of powers of ten is as it was laid.
-/
import Derived.Test.YtjnhaglcigpknaaDoorShelf
import Derived.Test.YtjnhaglcigpknaaDoorRows
import Derived.WalkKit
import Derived.WalkSpells
import Derived.WalkLawsBesides
import Derived.Lib.Hide
import Derived.Lib.ItoaMem
import Derived.Lib.AppendIntMem
import Derived.Lib.ItoaLen
import Derived.BigCall
import Derived.BigGuard
namespace Go.Proofs.YtjnhaglcigpknaaDoor
open Go.RowKit

/-- What the library's package-level variables hold: the table of powers of ten. -/
structure Gl (w : World) : Prop where
  tab : Lib.TabBelow Tryd.prog w.heap.size w "internal/strconv.uint64pow10" .u64 Lib.pow10Tab
theorem Gl.next {w w1 : World} (h : Gl w) (hb : Below w.heap.size w w1) : Gl w1 := ⟨fun w' h' => h.tab w' (hb.trans (h'.mono hb.size))⟩
theorem Gl.tabIs {w : World} (h : Gl w) : Lib.TabIs Tryd.prog w "internal/strconv.uint64pow10" .u64 Lib.pow10Tab := h.tab _ (Below.refl _ _)

theorem zeros_row (w : World) (T : TypeId) (nd : Nat) (hs : nd ≤ 24) : Sort.Holds (fun (b : UInt8) => Value.int .u8 (b.toNat : Int)) (w.alloc (.cells Lib.zeros24 T)) w.heap.size 0 (Array.replicate nd (0 : UInt8)) := fun j hj => by
  have hj' : j < nd := by simpa using hj
  refine ⟨?_, World.frozen?_alloc_new _ _ _ _⟩
  rw [World.cell?_alloc_new, Lib.zeros24_at _ (by omega), getElem!_pos _ j hj]
  simp
end Go.Proofs.YtjnhaglcigpknaaDoor
