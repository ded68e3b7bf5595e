/-
  THE WALK of the law SumBoth: whatever the two texts, it returns true and writes to nothing that was there.
-/
import Derived.Test.YtjiehfjpejoeeaaSum3
import Derived.Lib.SmallJoins
namespace Go.Proofs.Ytjiehfjpejoeeaa
open Go.RowKit

set_option maxHeartbeats 1000000 in
theorem both_walk (a0 a1 : ByteArray) (w0 : a0.size ≤ maxLen) (w1 : a1.size ≤ maxLen) (w : World) :
    Calls Try.prog 5 #[.string a0, .string a1] w fun e w' => e = .returned (.bool true) ∧ Below w.heap.size w w' := by
  have hsa := cutB_size a0 3000
  have hsb := cutB_size a1 3000
  have cuta := fun w => cut_any a0 3000 w w0 (by omega)
  have cutb := fun w => cut_any a1 3000 w w1 (by omega)
  generalize cutB a0 3000 = a at *
  generalize cutB a1 3000 = b at *
  have j1 : Ad.join (Ad.sum a.data.toList) (Ad.sum b.data.toList) b.size = Ad.sum (a.data.toList ++ b.data.toList) := by
    have := Ad.join_sum a.data.toList b.data.toList
    simpa using this
  have J5 := Lib.hid (show (a ++ b).data.toList = a.data.toList ++ b.data.toList from by simp only [ByteArray.data_append, Array.toList_append])
  have j2 : Ad.join (Ad.sum a.data.toList) 1 0 = Ad.sum a.data.toList := by
    have := Ad.join_sum a.data.toList []
    rw [show Ad.sum [] = 1 from by decide +kernel] at this
    simpa using this
  have l1 := Ad.sum_lt a.data.toList
  have l2 := Ad.sum_lt b.data.toList
  have hall : (a ++ b).size ≤ maxLen := maxLen8 _ (by rw [ByteArray.size_append]; omega)
  have J1 := Lib.hid j1
  have J2 := Lib.hid j2
  have m1 := maxLen8 a.size (by omega)
  have m2 := maxLen8 b.size (by omega)
  clear j1 j2
  have CA := Lib.hid cuta
  have CB := Lib.hid cutb
  clear cuta cutb
  go_enter Try.func5, Try.ntmps5
  go_wp2_with fail
  refine (CA.out _).mono ?_
  rintro e w' ⟨rfl, rfl⟩
  go_wp2_with fail
  refine (CB.out _).mono ?_
  rintro e w' ⟨rfl, rfl⟩
  go_wp2_with fail
  refine (awake_any _).mono ?_
  rintro e w1 ⟨rfl, h1⟩
  go_wp2_with fail
  refine (of_any a _ m1).mono ?_
  rintro e w2 ⟨rfl, hb2⟩
  have h2 := h1.trans (hb2.mono h1.size)
  clear h1 hb2
  go_wp2_with fail
  refine (of_any b _ m2).mono ?_
  rintro e w3 ⟨rfl, hb3⟩
  have h3 := h2.trans (hb3.mono h2.size)
  clear h2 hb3
  go_wp2_with fail
  refine (join_any _ _ b.size _ l1 l2 m2).mono ?_
  rintro e w4 ⟨rfl, hb4⟩
  have h4 := h3.trans (hb4.mono h3.size)
  clear h3 hb4
  rw [J1.out]
  go_wp2_with fail
  refine (of_any (a ++ b) _ hall).mono ?_
  rintro e w5 ⟨rfl, hb5⟩
  have h5 := h4.trans (hb5.mono h4.size)
  clear h4 hb5
  rw [J5.out]
  go_wp2_with fail
  refine (of_any a _ m1).mono ?_
  rintro e w6 ⟨rfl, hb6⟩
  have h6 := h5.trans (hb6.mono h5.size)
  clear h5 hb6
  go_wp2_with fail
  refine (of_any _ _ (maxLen8 _ (by decide))).mono ?_
  rintro e w7 ⟨rfl, hb7⟩
  have h7 := h6.trans (hb7.mono h6.size)
  clear h6 hb7
  rw [aw2]
  go_wp2_with fail
  refine (join_any _ 1 0 _ l1 (by omega) (maxLen8 0 (by omega))).mono ?_
  rintro e w8 ⟨rfl, hb8⟩
  have h8 := h7.trans (hb8.mono h7.size)
  clear h7 hb8
  rw [J2.out]
  go_wp2_with fail
  refine (of_any a _ m1).mono ?_
  rintro e w9 ⟨rfl, hb9⟩
  have h9 := h8.trans (hb9.mono h8.size)
  clear h8 hb9
  go_wp2_with fail
  go_ret
  exact ⟨by simp, h9⟩
end Go.Proofs.Ytjiehfjpejoeeaa
