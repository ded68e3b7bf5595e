/-
  CONTRACTS of sum.Check and sum.Join, and of the laws' own awake: what each call answers, and that it writes to nothing that was there.
-/
import Derived.Test.YtmlpkimbcjkbkaaGreatDoorSum2
namespace Go.Proofs.YtmlpkimbcjkbkaaGreatDoor
open Go.RowKit

theorem bytes_ne {a b : ByteArray} (h : ¬ a = b) : (a.toList == b.toList) = false := by
  rw [Lib.toList_data, Lib.toList_data]
  simpa using fun e => h (WideShapes.bytes_inj e)

/-- Check's answer: 3, if hex isn't eight digits; 4, if they aren't those of t's sum; else 0. -/
def checkV (h t : ByteArray) : Nat := if isHexB h = false then 3 else if h = hexS (Ad.sum t.data.toList) then 0 else 4

set_option maxHeartbeats 400000 in
theorem check_any (h t : ByteArray) (w : World) (hh : h.size ≤ maxLen) (ht : t.size ≤ maxLen) :
    Calls Tryz.prog 67 #[.string h, .string t] w fun e w' => e = .returned (.int .i64 (checkV h t)) ∧ Below w.heap.size w w' := by
  cases hx : isHexB h with
  | false =>
    have e : checkV h t = 3 := by simp [checkV, hx]
    rw [e]
    have HX := Lib.hid hx
    clear hx e
    go_enter Tryz.func67, Tryz.ntmps67
    go_wp2_with fail
    refine (isHex_any h _ hh).mono ?_
    rintro e w1 ⟨rfl, rfl⟩
    rw [HX.out]
    go_wp2_with fail
    go_ret
    exact ⟨rfl, Below.refl _ _⟩
  | true =>
    by_cases hq : h = hexS (Ad.sum t.data.toList)
    · have e : checkV h t = 0 := by simp [checkV, hx, ← hq]
      rw [e]
      have HX := Lib.hid hx
      have HQ := Lib.hid hq
      clear hx e hq
      go_enter Tryz.func67, Tryz.ntmps67
      go_wp2_with fail
      refine (isHex_any h _ hh).mono ?_
      rintro e w1 ⟨rfl, rfl⟩
      rw [HX.out]
      go_wp2_with fail
      refine (of_any t _ ht).mono ?_
      rintro e w1 ⟨rfl, hb1⟩
      go_wp2_with fail
      refine (hex_any _ _ (Ad.sum_lt _)).mono ?_
      rintro e w2 ⟨rfl, hb2⟩
      rw [← HQ.out]
      go_wp2_with fail
      go_ret
      exact ⟨rfl, hb1.trans (hb2.mono hb1.size)⟩
    · have e : checkV h t = 4 := by simp [checkV, hx, hq]
      rw [e]
      have HX := Lib.hid hx
      have hq2 := bytes_ne hq
      have HQ := Lib.hid hq2
      clear hx e hq hq2
      generalize hxs : hexS (Ad.sum t.data.toList) = xs at *
      have HXS := Lib.hid hxs
      clear hxs
      go_enter Tryz.func67, Tryz.ntmps67
      go_wp2_with fail
      refine (isHex_any h _ hh).mono ?_
      rintro e w1 ⟨rfl, rfl⟩
      rw [HX.out]
      go_wp2_with fail
      refine (of_any t _ ht).mono ?_
      rintro e w1 ⟨rfl, hb1⟩
      go_wp2_with fail
      refine (hex_any _ _ (Ad.sum_lt _)).mono ?_
      rintro e w2 ⟨rfl, hb2⟩
      rw [HXS.out]
      have hq3 := HQ.out
      go_wp2_with fail
      go_ret
      exact ⟨rfl, hb1.trans (hb2.mono hb1.size)⟩

theorem joinA_int (x y : Nat) : ((x : Int) % 65536 + 65521 - 1 + (y : Int) % 65536) % 65521 = ((Ad.joinA x y : Nat) : Int) := by unfold Ad.joinA; omega
theorem joinB_sum (a b P : Nat) (ha : a < 65536) (hb : b < 65536) (hP : P ≤ 65521 * 131072) : (IntKind.u64.wrap ((a : Int) + (b : Int) + IntKind.u64.wrap (P : Int))).tmod 65521 = (((a + b + P) % 65521 : Nat) : Int) := by
  rw [IntKind.wrap_u64, IntKind.wrap_u64, Int.tmod_eq_emod_of_nonneg (by omega)]
  omega
theorem joinB_int (x y n : Nat) (hx : x < 4294967296) (hy : y < 4294967296) : (IntKind.u64.wrap ((x : Int) / 65536 + (y : Int) / 65536 + IntKind.u64.wrap ((n : Int) % 65521 * ((x : Int) % 65536 + 65521 - 1)))).tmod 65521 = ((Ad.joinB x y n : Nat) : Int) := by
  have e : (n : Int) % 65521 * ((x : Int) % 65536 + 65521 - 1) = ((n % 65521 * (x % 65536 + 65520) : Nat) : Int) := by
    rw [Int.natCast_mul, show (x : Int) % 65536 + 65521 - 1 = ((x % 65536 + 65520 : Nat) : Int) from by omega, show (n : Int) % 65521 = ((n % 65521 : Nat) : Int) from by omega]
  have hp : n % 65521 * (x % 65536 + 65520) ≤ 65521 * 131072 := Nat.mul_le_mul (by omega) (by omega)
  rw [e]
  exact joinB_sum (x / 65536) (y / 65536) _ (by omega) (by omega) hp

theorem hexc_hex : ∀ n, n < 16 → hexd (hexc n).toNat = true := by decide
theorem isHexB_hexS (x : Nat) : isHexB (hexS x) = true := by
  have hm (a : Nat) : hexd (hexc (a % 16)).toNat = true := hexc_hex _ (Nat.mod_lt _ (by decide))
  unfold isHexB hexS hexL
  simp [hm]
theorem check_own (t : ByteArray) : checkV (hexS (Ad.sum t.data.toList)) t = 0 := by simp [checkV, isHexB_hexS]
theorem maxLen8 (n : Nat) (h : n ≤ 100000) : n ≤ maxLen := by unfold maxLen; omega

end Go.Proofs.YtmlpkimbcjkbkaaGreatDoor
