/-
  THE WALK of the law SumTrains: whatever the three texts, it returns true and writes to nothing that was there.
-/
import Derived.Test.YtjiehfjpejoeeabSum3
import Derived.Lib.SmallJoins
namespace Go.Proofs.Ytjiehfjpejoeeab
open Go.RowKit

theorem join_data (a b : ByteArray) : Ad.join (Ad.sum a.data.toList) (Ad.sum b.data.toList) b.size = Ad.sum (a.data.toList ++ b.data.toList) := by
  have := Ad.join_sum a.data.toList b.data.toList
  simpa using this
theorem append_size (a b : ByteArray) : (a ++ b).size = a.size + b.size := by simp

set_option maxHeartbeats 1000000 in
theorem trains_walk (a0 a1 a2 : ByteArray) (w0 : a0.size ≤ maxLen) (w1 : a1.size ≤ maxLen) (w2 : a2.size ≤ maxLen) (w : World) :
    Calls Try.prog 5 #[.string a0, .string a1, .string a2] w fun e w' => e = .returned (.bool true) ∧ Below w.heap.size w w' := by
  have hsa := cutB_size a0 1000
  have hsb := cutB_size a1 1000
  have hsc := cutB_size a2 1000
  have cuta := fun w => cut_any a0 1000 w w0 (by omega)
  have cutb := fun w => cut_any a1 1000 w w1 (by omega)
  have cutc := fun w => cut_any a2 1000 w w2 (by omega)
  generalize cutB a0 1000 = a at *
  generalize cutB a1 1000 = b at *
  generalize cutB a2 1000 = c at *
  have j1 : Ad.join (Ad.sum a.data.toList) (Ad.sum b.data.toList) b.size = Ad.sum (a.data.toList ++ b.data.toList) := join_data a b
  have j2 : Ad.join (Ad.sum (a.data.toList ++ b.data.toList)) (Ad.sum c.data.toList) c.size = Ad.sum (a.data.toList ++ b.data.toList ++ c.data.toList) := by
    have := Ad.join_sum (a.data.toList ++ b.data.toList) c.data.toList; simpa using this
  have j3 : Ad.join (Ad.sum b.data.toList) (Ad.sum c.data.toList) c.size = Ad.sum (b.data.toList ++ c.data.toList) := join_data b c
  have j4 : Ad.join (Ad.sum a.data.toList) (Ad.sum (b.data.toList ++ c.data.toList)) (b.size + c.size) = Ad.sum (a.data.toList ++ b.data.toList ++ c.data.toList) := by
    have := Ad.join_sum a.data.toList (b.data.toList ++ c.data.toList); simpa [List.append_assoc] using this
  have j5 : (a ++ b ++ c).data.toList = a.data.toList ++ b.data.toList ++ c.data.toList := by simp only [ByteArray.data_append, Array.toList_append]
  have l1 := Ad.sum_lt a.data.toList
  have l2 := Ad.sum_lt b.data.toList
  have l3 := Ad.sum_lt c.data.toList
  have l4 := Ad.sum_lt (a.data.toList ++ b.data.toList)
  have l5 := Ad.sum_lt (b.data.toList ++ c.data.toList)
  have hall : (a ++ b ++ c).size ≤ maxLen := maxLen8 _ (by rw [append_size, append_size]; omega)
  have J1 := Lib.hid j1
  have J2 := Lib.hid j2
  have J3 := Lib.hid j3
  have J4 := Lib.hid j4
  have J5 := Lib.hid j5
  have m1 := maxLen8 a.size (by omega)
  have m2 := maxLen8 b.size (by omega)
  have m3 := maxLen8 c.size (by omega)
  have m4 := maxLen8 (b.size + c.size) (by omega)
  clear j1 j2 j3 j4 j5
  have CA := Lib.hid cuta
  have CB := Lib.hid cutb
  have CC := Lib.hid cutc
  clear cuta cutb cutc
  go_enter Try.func5, Try.ntmps5
  go_wp2_with fail
  refine (CA.out _).mono ?_
  rintro e w' ⟨rfl, rfl⟩
  go_wp2_with fail
  refine (CB.out _).mono ?_
  rintro e w' ⟨rfl, rfl⟩
  go_wp2_with fail
  refine (CC.out _).mono ?_
  rintro e w' ⟨rfl, rfl⟩
  go_wp2_with fail
  refine (of_any a _ m1).mono ?_
  rintro e w1 ⟨rfl, hb1⟩
  go_wp2_with fail
  refine (of_any b _ m2).mono ?_
  rintro e w2 ⟨rfl, hb2⟩
  have h2 := hb1.trans (hb2.mono hb1.size)
  clear hb1 hb2
  go_wp2_with fail
  refine (of_any c _ m3).mono ?_
  rintro e w3 ⟨rfl, hb3⟩
  have h3 := h2.trans (hb3.mono h2.size)
  clear h2 hb3
  go_wp2_with fail
  refine (join_any _ _ b.size _ l1 l2 m2).mono ?_
  rintro e w4 ⟨rfl, hb4⟩
  have h4 := h3.trans (hb4.mono h3.size)
  clear h3 hb4
  rw [J1.out]
  go_wp2_with fail
  refine (join_any _ _ c.size _ l4 l3 m3).mono ?_
  rintro e w5 ⟨rfl, hb5⟩
  have h5 := h4.trans (hb5.mono h4.size)
  clear h4 hb5
  rw [J2.out]
  go_wp2_with fail
  refine (join_any _ _ c.size _ l2 l3 m3).mono ?_
  rintro e w6 ⟨rfl, hb6⟩
  have h6 := h5.trans (hb6.mono h5.size)
  clear h5 hb6
  rw [J3.out]
  go_wp2_with fail
  refine (join_any _ _ (b.size + c.size) _ l1 l5 m4).mono ?_
  rintro e w7 ⟨rfl, hb7⟩
  have h7 := h6.trans (hb7.mono h6.size)
  clear h6 hb7
  rw [J4.out]
  go_wp2_with fail
  refine (awake_any _).mono ?_
  rintro e w8 ⟨rfl, hb8⟩
  have h8 := h7.trans (hb8.mono h7.size)
  clear h7 hb8
  go_wp2_with fail
  refine (of_any (a ++ b ++ c) _ hall).mono ?_
  rintro e w9 ⟨rfl, hb9⟩
  have h9 := h8.trans (hb9.mono h8.size)
  clear h8 hb9
  rw [J5.out]
  go_wp2_with fail
  go_ret
  exact ⟨by simp, h9⟩
end Go.Proofs.Ytjiehfjpejoeeab
