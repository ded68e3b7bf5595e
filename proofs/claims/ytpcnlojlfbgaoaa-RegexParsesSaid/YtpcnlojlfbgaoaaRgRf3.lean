/-
  CONTRACT of the document's own Print at a set alone.
-/
import Derived.Test.YtpcnlojlfbgaoaaRgRf2
namespace Go.Proofs.Ytpcnlojlfbgaoaa
open Go.RowKit

set_option maxHeartbeats 4000000 in
theorem rfprint_set (s : ByteArray) (hs : s.size ≤ 1000000) (w : World) :
    Calls Try.prog 9 #[.agg #[.int .i64 1, .string s, .slice none 0 0]] w fun e w' => e = .returned (.string ⟨(49 :: digsN (hasC s.data.toList) 64).toArray⟩) ∧ Below w.heap.size w w' := by
  have HW := Lib.hid fun W => rwords_any s hs W
  go_enter Try.func9, Try.ntmps9
  go_wp2_with fail
  refine (HW.out _).mono ?_
  rintro e w3 ⟨rfl, hb3⟩
  obtain ⟨D, hD⟩ : ∃ D : ByteArray, ⟨(digsN (hasC s.data.toList) 64).toArray⟩ = D := ⟨_, rfl⟩
  have hDs : D.size = 64 := by rw [← hD]; show (digsN (hasC s.data.toList) 64).toArray.size = 64; simp [digsN]
  have HDL := Lib.hid (show D.data.toList = digsN (hasC s.data.toList) 64 by rw [← hD])
  rw [hD]
  have hk : w3.cell? ⟨w.heap.size, 2, none⟩ = some (.slice none 0 0) := (hb3.cell (p := ⟨w.heap.size, 2, none⟩) (by simp)).trans (by simp)
  have HB := Lib.hid (show Below w.heap.size w w3 from Below.trans ((Below.refl _ _).alloc (Nat.le_refl _) _) (hb3.mono (by simp)))
  clear hD hb3 HW
  go_wp2_with fail
  go_loopw [3, 23] (fun tv iv wx => tv = .string ((⟨#[101, 49, 38, 124, 42, 43, 63, 94, 36]⟩ : ByteArray).extract 1 2 ++ D) ∧ iv = .int .i64 0 ∧ wx = w3) (fun _ _ _ => 0)
  case atStart => exact ⟨rfl, rfl, rfl⟩
  case round =>
    obtain ⟨rfl, rfl, rfl⟩ := hrel
    go_wp2_with fail
    go_ret
    refine ⟨?_, HB.out⟩
    have hT : (⟨#[101, 49, 38, 124, 42, 43, 63, 94, 36]⟩ : ByteArray).extract 1 2 ++ D = ⟨(49 :: digsN (hasC s.data.toList) 64).toArray⟩ := by
      apply ByteArray.ext
      apply Array.ext'
      rw [ByteArray.data_append, Array.toList_append, HDL.out]
      rfl
    rw [← hT]; rfl
end Go.Proofs.Ytpcnlojlfbgaoaa
