/-
  CONTRACT of layer 4's awake: it returns true. And Open's contract where its answer is known.
-/
import Derived.Test.YtdpplnjnkckocaaGreatDoorJOpen
namespace Go.Proofs.YtdpplnjnkckocaaGreatDoor
open Go.RowKit

/-- Open, its answer being known. -/
theorem open_is (s X : ByteArray) (k : Nat) (w : World) (hs : s.size ≤ 100000) (h : openL s.data.toList = (X.data.toList, k)) (G : Gl w) :
    Calls Tryz.prog 16 #[.string s] w fun e w' => e = .returned (.tuple #[.string X, .int .i64 k]) ∧ Below w.heap.size w w' := by
  refine (open_any s w hs G).mono ?_
  rintro e w' ⟨rfl, hb⟩
  rw [h]
  refine ⟨?_, hb⟩
  have e : (⟨(X.data.toList, k).1.toArray⟩ : ByteArray) = X := WideShapes.bytes_inj (by simp)
  rw [e]
theorem frame_is (t F : ByteArray) (w : World) (ht : t.size ≤ 100000) (h : F.data.toList = frameL t.data.toList) (G : Gl w) :
    Calls Tryz.prog 17 #[.string t] w fun e w' => e = .returned (.string F) ∧ Below w.heap.size w w' := by
  refine (frame_any t w ht G).mono ?_
  rintro e w' ⟨rfl, hb⟩
  refine ⟨?_, hb⟩
  have e : (⟨(frameL t.data.toList).toArray⟩ : ByteArray) = F := WideShapes.bytes_inj (by rw [h])
  rw [e]
theorem aw1j : openL [115, 99, 114, 105, 98, 101, 32, 49, 32, 50, 32, 48, 49, 50, 54, 48, 48, 99, 52, 10, 97, 98] = ([97, 98], 0) := by decide +kernel
theorem aw2j : openL [115, 99, 114, 105, 98, 101, 32, 49, 32, 50, 32, 48, 49, 50, 54, 48, 48, 99, 52, 10, 98, 98] = ([], 4) := by decide +kernel
theorem aw3j : frameL [97, 98] = [115, 99, 114, 105, 98, 101, 32, 49, 32, 50, 32, 48, 49, 50, 54, 48, 48, 99, 52, 10, 97, 98] := by decide +kernel
set_option maxHeartbeats 1000000 in
set_option maxRecDepth 100000 in
theorem awake_any (w : World) (G : Gl w) :
    Calls Tryz.prog 6 #[] w fun e w' => e = .returned (.bool true) ∧ Below w.heap.size w w' := by
  have HG := Lib.hid G
  clear G
  go_enter Tryz.func6, Tryz.ntmps6
  go_wp2_with fail
  refine (open_is ⟨#[115, 99, 114, 105, 98, 101, 32, 49, 32, 50, 32, 48, 49, 50, 54, 48, 48, 99, 52, 10, 97, 98]⟩ ⟨#[97, 98]⟩ 0 _ (by decide) aw1j HG.out).mono ?_
  rintro e w1 ⟨rfl, hb1⟩
  have HB1 := Lib.hid hb1
  clear hb1
  go_wp2_with fail
  refine (open_is ⟨#[115, 99, 114, 105, 98, 101, 32, 49, 32, 50, 32, 48, 49, 50, 54, 48, 48, 99, 52, 10, 98, 98]⟩ ⟨#[]⟩ 4 _ (by decide) aw2j (HG.out.next HB1.out)).mono ?_
  rintro e w2 ⟨rfl, hb2⟩
  have HB2 := Lib.hid (HB1.out.trans (hb2.mono HB1.out.size))
  clear hb2 HB1
  go_wp2_with fail
  refine (frame_is ⟨#[97, 98]⟩ ⟨#[115, 99, 114, 105, 98, 101, 32, 49, 32, 50, 32, 48, 49, 50, 54, 48, 48, 99, 52, 10, 97, 98]⟩ _ (by decide) aw3j.symm (HG.out.next HB2.out)).mono ?_
  rintro e w3 ⟨rfl, hb3⟩
  have HB3 := Lib.hid (HB2.out.trans (hb3.mono HB2.out.size))
  clear hb3 HB2
  go_wp2_with fail
  go_ret
  exact ⟨rfl, HB3.out⟩
end Go.Proofs.YtdpplnjnkckocaaGreatDoor
