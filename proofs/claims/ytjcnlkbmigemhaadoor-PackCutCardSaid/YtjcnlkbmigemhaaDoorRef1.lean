/-
  CONTRACTS of the document's own answers for layer 1 that write (Digits, Int, Text): decimal digits, a number's bytes, a text's bytes; they write to nothing that was there.
-/
import Derived.Test.YtjcnlkbmigemhaaDoorWr
import Derived.Test.YtjcnlkbmigemhaaDoorDig
namespace Go.Proofs.YtjcnlkbmigemhaaDoor
open Go.RowKit

/-- A number's bytes, a text's bytes. -/
def intL (n : Int) : List UInt8 := [105] ++ Lib.itoa n ++ [59]
def textL (t : List UInt8) : List UInt8 := Lib.itoa t.length ++ [58] ++ t
theorem neg_u64 (n : Int) (h0 : -9223372036854775808 ≤ n) (h1 : n < 0) : IntKind.u64.wrap (-(IntKind.u64.wrap n)) = (n.natAbs : Int) := by
  rw [IntKind.wrap_u64, IntKind.wrap_u64]; omega

set_option maxHeartbeats 1000000 in
theorem refint_any (n : Int) (w : World) (h0 : -9223372036854775808 ≤ n) (h1 : n ≤ 9223372036854775807) :
    Calls Tryd.prog 34 #[.int .i64 n] w fun e w' => e = .returned (.string ⟨(intL n).toArray⟩) ∧ Below w.heap.size w w' := by
  by_cases hn : n < 0
  · have hfin : (⟨#[105, 45]⟩ : ByteArray) ++ ⟨(Lib.decDigits n.natAbs).toArray⟩ ++ ⟨#[59]⟩ = ⟨(intL n).toArray⟩ := by
      refine WideShapes.bytes_inj ?_
      simp only [ByteArray.data_append, Array.toList_append]
      unfold intL Lib.itoa
      rw [if_pos hn]
      simp
    have HFIN := Lib.hid hfin
    have NE := Lib.hid (neg_u64 n h0 hn)
    have D := Lib.hid (fun w => refdigits_any n.natAbs w (by omega))
    have hdl : (Lib.decDigits n.natAbs).length ≤ 20 := by rw [Lib.decDigits_length]; exact Lib.nDigits_le20 _ (by omega)
    clear hfin
    generalize Lib.decDigits n.natAbs = dd at *
    go_enter Tryd.func34, Tryd.ntmps34
    go_wp2_with fail
    rw [NE.out]
    refine (D.out _).mono ?_
    rintro e w1 ⟨rfl, hb⟩
    go_wp2_with fail
    go_ret
    exact ⟨by rw [← HFIN.out]; rfl, hb⟩
  · have hfin : (⟨#[105]⟩ : ByteArray) ++ ⟨(Lib.decDigits n.toNat).toArray⟩ ++ ⟨#[59]⟩ = ⟨(intL n).toArray⟩ := by
      refine WideShapes.bytes_inj ?_
      simp only [ByteArray.data_append, Array.toList_append]
      unfold intL Lib.itoa
      rw [if_neg hn]
    have HFIN := Lib.hid hfin
    have D := Lib.hid (fun w => refdigits_any n.toNat w (by omega))
    have hdl : (Lib.decDigits n.toNat).length ≤ 20 := by rw [Lib.decDigits_length]; exact Lib.nDigits_le20 _ (by omega)
    clear hfin
    generalize Lib.decDigits n.toNat = dd at *
    rw [Int.toNat_of_nonneg (by omega)] at D
    go_enter Tryd.func34, Tryd.ntmps34
    go_wp2_with fail
    refine (D.out _).mono ?_
    rintro e w1 ⟨rfl, hb⟩
    go_wp2_with fail
    go_ret
    exact ⟨by rw [← HFIN.out]; rfl, hb⟩
set_option maxHeartbeats 1000000 in
theorem reftext_any (t : ByteArray) (w : World) (ht : t.size ≤ 100000) :
    Calls Tryd.prog 35 #[.string t] w fun e w' => e = .returned (.string ⟨(textL t.data.toList).toArray⟩) ∧ Below w.heap.size w w' := by
  have hfin : (⟨(Lib.decDigits t.size).toArray⟩ : ByteArray) ++ ⟨#[58]⟩ ++ t = ⟨(textL t.data.toList).toArray⟩ := by
    refine WideShapes.bytes_inj ?_
    simp only [ByteArray.data_append, Array.toList_append]
    unfold textL
    rw [Lib.itoa_nonneg]
    simp
  have hdl : (Lib.decDigits t.size).length ≤ 20 := by rw [Lib.decDigits_length]; exact Lib.nDigits_le20 _ (by omega)
  have HFIN := Lib.hid hfin
  have D := Lib.hid (fun w => refdigits_any t.size w (by omega))
  clear hfin
  generalize Lib.decDigits t.size = dd at *
  go_enter Tryd.func35, Tryd.ntmps35
  go_wp2_with fail
  refine (D.out _).mono ?_
  rintro e w1 ⟨rfl, hb⟩
  go_wp2_with fail
  go_ret
  exact ⟨by rw [← HFIN.out]; rfl, hb⟩
end Go.Proofs.YtjcnlkbmigemhaaDoor
