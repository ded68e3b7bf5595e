/-
  CONTRACT of the laws' own awake of layer 1: it returns true and writes to nothing that was there, where the library's table of powers of ten is as its text lays it.
-/
import Derived.Test.YtbebkchfmebcmaaDoorRef1
namespace Go.Proofs.YtbebkchfmebcmaaDoor
open Go.RowKit

theorem Wr.kept {w w' : World} {b B : Nat} {l : List UInt8} (h : Wr w b B l) (hb : Below w.heap.size w w') : Wr w' b B l := by
  obtain ⟨v, hc, hf, hown, hbB, hB⟩ := h
  refine ⟨v, (hb.cell (p := ⟨b, 0, none⟩) (by exact Nat.lt_of_lt_of_le hbB hB)).trans hc, (hb.frozen (p := ⟨b, 0, none⟩) (by exact Nat.lt_of_lt_of_le hbB hB)).trans hf, ⟨hown.1, ?_⟩, hbB, Nat.le_trans hB hb.size⟩
  rcases hown.2 with h2 | ⟨g, cap, cur, hv, hg, hh, r⟩
  · exact Or.inl h2
  · exact Or.inr ⟨g, cap, cur, hv, hg, by rw [hb.block g (Array.getElem?_eq_some_iff.1 hh).1]; exact hh, r⟩
theorem Wr.new (w : World) : Wr (w.alloc (.cells #[.slice none 0 0] 34)) w.heap.size (w.heap.size + 1) [] :=
  ⟨.slice none 0 0, by simp [go_sem], by simp [go_sem], ⟨by simp [Lib.byteCells], Or.inl ⟨rfl, rfl⟩⟩, by omega, by simp⟩
theorem aw1 : [] ++ [105] ++ Lib.itoa (-12) ++ [59] = [105, 45, 49, 50, 59] := by decide +kernel
theorem aw2 : [105, 45, 49, 50, 59] ++ Lib.itoa (({ data := #[97, 98] } : ByteArray).size : Int) ++ [58] ++ ({ data := #[97, 98] } : ByteArray).data.toList = [105, 45, 49, 50, 59, 50, 58, 97, 98] := by decide +kernel
theorem aw3 : intP { data := #[105, 48, 49, 59] } 0 0 = (2, 3, 0) := by decide +kernel

set_option maxHeartbeats 2000000 in
theorem awake_any (w : World) (htab : Lib.TabBelow Tryd.prog w.heap.size w "internal/strconv.uint64pow10" .u64 Lib.pow10Tab) :
    Calls Tryd.prog 4 #[] w fun e w' => e = .returned (.bool true) ∧ Below w.heap.size w w' := by
  have hw0 := Wr.new w
  have hf0 : Below w.heap.size w (w.alloc (.cells #[.slice none 0 0] 34)) := (Below.refl _ _).alloc (Nat.le_refl _) _
  have ht0 := htab.on hf0
  go_enter Tryd.func4, Tryd.ntmps4
  go_wp2_with fail
  refine (wint_any _ _ _ (-12) _ hw0 (by simp) (by omega) (by omega) ht0).mono ?_
  rintro e w1 ⟨rfl, hw1, hf1⟩
  rw [aw1] at hw1
  have hF1 := hf0.trans (hf1.below (by omega))
  have ht1 := htab.on hF1
  clear hw0 hf0 ht0 hf1
  go_wp2_with fail
  refine (wtext_any _ _ _ _ _ hw1 (by decide) ht1).mono ?_
  rintro e w2 ⟨rfl, hw2, hf2⟩
  rw [aw2] at hw2
  have hF2 := hF1.trans (hf2.below (by omega))
  clear hw1 hF1 ht1 hf2
  go_wp2_with fail
  refine (wopen_any _ _ _ _ hw2 (by decide)).mono ?_
  rintro e w3 ⟨rfl, hw3, hf3⟩
  have hF3 := hF2.trans (hf3.below (by omega))
  clear hw2 hF2 hf3
  go_wp2_with fail
  refine (wclose_any _ _ _ _ hw3 (by decide)).mono ?_
  rintro e w4 ⟨rfl, hw4, hf4⟩
  have hF4 := hF3.trans (hf4.below (by omega))
  clear hw3 hF3 hf4
  go_wp2_with fail
  refine (read_any _ _).mono ?_
  rintro e w5 ⟨rfl, rfl⟩
  have hr := Rd.new { data := #[105, 48, 49, 59] } w4 45
  have hB5 : Below w4.heap.size w4 _ := (Below.refl _ _).alloc (Nat.le_refl _) (.cells #[.string { data := #[105, 48, 49, 59] }, .int .i64 0, .int .i64 0, .int .i64 0] 45)
  go_wp2_with fail
  refine (int_any _ _ 0 0 0 _ hr (by decide) (by unfold maxLen; decide)).mono ?_
  rintro e w6 ⟨rfl, hr6, ho6⟩
  rw [aw3] at hr6 ⊢
  have hB6 : Below w4.heap.size w4 w6 := hB5.trans (ho6.below (Nat.le_refl _) hB5.size)
  have hw6 := hw4.kept hB6
  have hF6 : Below w.heap.size w w6 := hF4.trans (hB6.mono hF4.size)
  clear hr hB5 ho6 hw4 hF4
  go_wp2_with fail
  refine (wbytes_any _ _ _ _ hw6).mono ?_
  rintro e w7 ⟨rfl, rfl⟩
  go_wp2_with fail
  refine (err_any _ _ _ _ _ _ hr6).mono ?_
  rintro e w7 ⟨rfl, rfl⟩
  go_wp2_with fail
  refine (at_any _ _ _ _ _ _ hr6).mono ?_
  rintro e w7 ⟨rfl, rfl⟩
  go_wp2_with fail
  go_ret
  exact ⟨rfl, hF6⟩
end Go.Proofs.YtbebkchfmebcmaaDoor
