/-
  CONTRACT of the laws' own awake of layer 1: it returns true and writes to nothing that was there, where the library's table of powers of ten is as its text lays it.
-/
import Derived.Test.YtjlkdglbnfifeaaGreatDoorRef1
namespace Go.Proofs.YtjlkdglbnfifeaaGreatDoor.Pk
open Go.RowKit

theorem Wr.kept {w w' : World} {b B : Nat} {l : List UInt8} (h : Wr w b B l) (hb : Below w.heap.size w w') : Wr w' b B l := by
  obtain ⟨v, hc, hf, hown, hbB, hB⟩ := h
  refine ⟨v, (hb.cell (p := ⟨b, 0, none⟩) (by exact Nat.lt_of_lt_of_le hbB hB)).trans hc, (hb.frozen (p := ⟨b, 0, none⟩) (by exact Nat.lt_of_lt_of_le hbB hB)).trans hf, ⟨hown.1, ?_⟩, hbB, Nat.le_trans hB hb.size⟩
  rcases hown.2 with h2 | ⟨g, cap, cur, hv, hg, hh, r⟩
  · exact Or.inl h2
  · exact Or.inr ⟨g, cap, cur, hv, hg, by rw [hb.block g (Array.getElem?_eq_some_iff.1 hh).1]; exact hh, r⟩
theorem Wr.new (w : World) : Wr (w.alloc (.cells #[.slice none 0 0] 29)) w.heap.size (w.heap.size + 1) [] :=
  ⟨.slice none 0 0, by simp [go_sem], by simp [go_sem], ⟨by simp [Lib.byteCells], Or.inl ⟨rfl, rfl⟩⟩, by omega, by simp⟩
theorem aw1 : [] ++ [105] ++ Lib.itoa (-12) ++ [59] = [105, 45, 49, 50, 59] := by decide +kernel
theorem aw2 : [105, 45, 49, 50, 59] ++ Lib.itoa (({ data := #[97, 98] } : ByteArray).size : Int) ++ [58] ++ ({ data := #[97, 98] } : ByteArray).data.toList = [105, 45, 49, 50, 59, 50, 58, 97, 98] := by decide +kernel
theorem aw3 : intP { data := #[105, 48, 49, 59] } 0 0 = (2, 3, 0) := by decide +kernel

end Go.Proofs.YtjlkdglbnfifeaaGreatDoor.Pk
