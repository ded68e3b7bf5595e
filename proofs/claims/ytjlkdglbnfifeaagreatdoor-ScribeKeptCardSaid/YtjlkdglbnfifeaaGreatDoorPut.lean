/-
  A THING WRITTEN: its bytes, and the contract of 'put'.
-/
import Derived.Test.YtjlkdglbnfifeaaGreatDoorFew
namespace Go.Proofs.YtjlkdglbnfifeaaGreatDoor.Pk
open Go.RowKit

/-- A thing's bytes. -/
def Th.enc (t : Th) : List UInt8 := if t.k = 1 then intL t.n else if t.k = 2 then textL t.s.data.toList else if t.k = 3 then [40] else if t.k = 4 then [41] else []
theorem WFr.ofBelow {b B : Nat} {w w' : World} (h : Below w.heap.size w w') (hB : B ≤ w.heap.size) : WFr b B w w' :=
  ⟨h.os, h.tape, h.output, h.size, fun k hk _ => h.block k (by omega), fun k o h1 _ _ => (h.block k (by
    rcases Nat.lt_or_ge k w.heap.size with h2 | h2
    · exact h2
    · rw [Array.getElem?_eq_none h2] at h1; cases h1)).trans h1⟩
theorem Wr.le {w : World} {b B : Nat} {l : List UInt8} (h : Wr w b B l) : b < B ∧ B ≤ w.heap.size := by
  obtain ⟨v, _, _, _, hb, hB⟩ := h
  exact ⟨hb, hB⟩
theorem Tryz.tab_b {B : Nat} {w w1 : World} {b : Nat} (htab : Lib.TabBelow Tryz.prog b w "internal/strconv.uint64pow10" .u64 Lib.pow10Tab) (hb : Below B w w1) (hB : b ≤ B) : Lib.TabBelow Tryz.prog b w1 "internal/strconv.uint64pow10" .u64 Lib.pow10Tab :=
  fun w' h' => htab w' ((hb.mono hB).trans h')

/-- What lies in a block of another kind stays. -/
theorem WFr.other {b B : Nat} {w w' : World} {cs : Array Value} (h : WFr b B (w.alloc (.cells cs 32)) w') (hb : b < w.heap.size) (j : Nat) : w'.cell? ⟨w.heap.size, j, none⟩ = (w.alloc (.cells cs 32)).cell? ⟨w.heap.size, j, none⟩ := by
  have e0 := (MapKept.heap_alloc w (.cells cs 32)).1
  have e := h.others _ _ e0 (by intro h2; injection h2; omega) (fun c fz h2 => by cases h2)
  exact World.cell?_of_block (e.trans e0.symm)

end Go.Proofs.YtjlkdglbnfifeaaGreatDoor.Pk
