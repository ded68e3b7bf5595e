/-
  CONTRACTS of the document's own answers for layer 1 that write (Digits, Int, Text): decimal digits, a number's bytes, a text's bytes; they write to nothing that was there.
-/
import Derived.Test.YtjiehfjpejoeeaaDoorWr
namespace Go.Proofs.YtjiehfjpejoeeaaDoor
open Go.RowKit

/-- 'string([]byte{c})' of a new array of one byte. -/
theorem conv_one (c : UInt8) (n : Int) (hn : n = c.toNat) (a : Addr) (w : World) (h : w.cell? a = some (.int .u8 n)) : (convert 23 9 (.slice (some a) 1 1)).run Tryd.prog w = .ok (.string ⟨#[c]⟩) w := by
  refine run_convert_bytes_back (P := Tryd.prog) _ 23 9 5 _ 1 [c] Tryd.underlying23 Tryd.underlying5 Tryd.underlying9 ?_
  intro j hj
  obtain rfl : j = 0 := by simpa using hj
  rw [show a.add 0 = a from by simp [Addr.add], h, hn]
  rfl
def dch (u : Nat) : UInt8 := UInt8.ofNat (48 + u % 10)
/-- The digits of u that are to come yet, k having been made. -/
def pend (u k : Nat) : List UInt8 := if k ≠ 0 ∧ u = 0 then [] else Lib.decDigits u
theorem pend_step (u k : Nat) (h : k = 0 ∨ u ≠ 0) : pend u k = pend (u / 10) (k + 1) ++ [dch u] := by
  unfold pend dch
  rw [if_neg (by omega)]
  by_cases h2 : u < 10
  · rw [if_pos ⟨by omega, by omega⟩, Lib.decDigits_one h2, show u % 10 = u from by omega]; rfl
  · rw [if_neg (by omega), Lib.decDigits, dif_neg h2]
theorem digit_val (u : Nat) : (48 : Int) + (u : Int) % 10 = ((dch u).toNat : Int) := by
  unfold dch
  rw [UInt8.toNat_ofNat_of_lt' (by show 48 + u % 10 < 256; omega)]; omega

set_option maxHeartbeats 2000000 in
theorem refdigits_any (n : Nat) (w : World) (hn : n < 18446744073709551616) :
    Calls Tryd.prog 45 #[.int .u64 n] w fun e w' => e = .returned (.string ⟨(Lib.decDigits n).toArray⟩) ∧ Below w.heap.size w w' := by
  have HN := Lib.hid (show n < 10 ^ 20 from Nat.lt_of_lt_of_le hn (by decide))
  have hn' : n ≤ 18446744073709551615 := by omega
  clear hn
  go_enter Tryd.func45, Tryd.ntmps45
  go_wp2
  go_loopw [0, 3, 4] (fun nv s i wr => ∃ (k u : Nat) (t : ByteArray), k ≤ 20 ∧ u ≤ 18446744073709551615 ∧ nv = .int .u64 u ∧ s = .string t ∧ i = .int .i64 k ∧ Hid (u < 10 ^ (20 - k)) ∧ Hid (Lib.decDigits n = pend u k ++ t.data.toList) ∧ Hid (t.size = k) ∧ Below w.heap.size w wr) (fun _ _ i _ => 20 - (intOf i).toNat)
  case atStart => exact ⟨0, n, ⟨#[]⟩, by omega, hn', rfl, rfl, rfl, Lib.hid HN.out, Lib.hid (by simp [pend]), Lib.hid rfl, Below.refl _ _⟩
  case round =>
    obtain ⟨k, u, t, hk, hub, rfl, rfl, rfl, HU, HD, HT, hbel⟩ := hrel
    by_cases hgo : k = 0 ∨ u ≠ 0
    · have hk20 : k < 20 := by
        rcases hgo with h | h
        · omega
        · by_cases h20 : k = 20
          · have := HU.out; rw [h20] at this; simp at this; omega
          · omega
      have HS := Lib.hid (pend_step u k hgo)
      have hU1 : Hid (u / 10 < 10 ^ (20 - (k + 1))) := by
        refine Lib.hid ?_
        have h1 := HU.out
        rw [show 20 - k = (20 - (k + 1)) + 1 from by omega, Nat.pow_succ] at h1
        omega
      have hcv := conv_one (dch u) (48 + (u : Int) % 10) (digit_val u) ⟨wr.heap.size, 0, none⟩ (wr.alloc (.cells #[.int .u8 (48 + (u : Int) % 10)] 5)) (by simp [go_sem])
      have hts : t.size ≤ 20 := by have := HT.out; omega
      rcases hgo with h | h
      · obtain rfl : k = 0 := h
        go_wp2
        go_roundw
        case rel => exact ⟨0 + 1, u / 10, _, by omega, by omega, by go_num, rfl, by go_num, hU1, Lib.hid (by rw [HD.out, HS.out, ByteArray.data_append, Array.toList_append, List.append_assoc]), Lib.hid (by rw [ByteArray.size_append, HT.out]; rfl), hbel.alloc hbel.size _⟩
        case measure => simp [intOf]
      · have hup : (0 : Int) < (u : Int) := by omega
        clear h
        by_cases hk0 : k = 0
        · obtain rfl : k = 0 := hk0
          go_wp2
          go_roundw
          case rel => exact ⟨0 + 1, u / 10, _, by omega, by omega, by go_num, rfl, by go_num, hU1, Lib.hid (by rw [HD.out, HS.out, ByteArray.data_append, Array.toList_append, List.append_assoc]), Lib.hid (by rw [ByteArray.size_append, HT.out]; rfl), hbel.alloc hbel.size _⟩
          case measure => simp [intOf]
        · have hkf : ((k : Int) == 0) = false := by rw [Bool.eq_false_iff]; simp; omega
          go_wp2
          go_roundw
          case rel => exact ⟨k + 1, u / 10, _, by omega, by omega, by go_num, rfl, by go_num, hU1, Lib.hid (by rw [HD.out, HS.out, ByteArray.data_append, Array.toList_append, List.append_assoc]), Lib.hid (by rw [ByteArray.size_append, HT.out]; show 1 + k = k + 1; omega), hbel.alloc hbel.size _⟩
          case measure => simp [intOf]; omega
    · have hk0 : k ≠ 0 := by omega
      obtain rfl : u = 0 := by omega
      have hkf : ((k : Int) == 0) = false := by rw [Bool.eq_false_iff]; simp; omega
      have HF : Hid (t = ⟨(Lib.decDigits n).toArray⟩) := Lib.hid (WideShapes.bytes_inj (by rw [HD.out]; simp [pend, hk0]))
      clear hgo hk0
      by_cases hk20 : k < 20
      · go_wp2
        go_ret
        exact ⟨by rw [← HF.out]; rfl, hbel⟩
      · go_wp2
        go_ret
        exact ⟨by rw [← HF.out]; rfl, hbel⟩

/-- A number's bytes, a text's bytes. -/
def intL (n : Int) : List UInt8 := [105] ++ Lib.itoa n ++ [59]
def textL (t : List UInt8) : List UInt8 := Lib.itoa t.length ++ [58] ++ t
theorem neg_u64 (n : Int) (h0 : -9223372036854775808 ≤ n) (h1 : n < 0) : IntKind.u64.wrap (-(IntKind.u64.wrap n)) = (n.natAbs : Int) := by
  rw [IntKind.wrap_u64, IntKind.wrap_u64]; omega

set_option maxHeartbeats 1000000 in
theorem refint_any (n : Int) (w : World) (h0 : -9223372036854775808 ≤ n) (h1 : n ≤ 9223372036854775807) :
    Calls Tryd.prog 26 #[.int .i64 n] w fun e w' => e = .returned (.string ⟨(intL n).toArray⟩) ∧ Below w.heap.size w w' := by
  by_cases hn : n < 0
  · have hfin : (⟨#[105, 45]⟩ : ByteArray) ++ ⟨(Lib.decDigits n.natAbs).toArray⟩ ++ ⟨#[59]⟩ = ⟨(intL n).toArray⟩ := by
      refine WideShapes.bytes_inj ?_
      simp only [ByteArray.data_append, Array.toList_append]
      unfold intL Lib.itoa
      rw [if_pos hn]
      simp
    have HFIN := Lib.hid hfin
    have NE := Lib.hid (neg_u64 n h0 hn)
    have D := Lib.hid (fun w => refdigits_any n.natAbs w (by omega))
    have hdl : (Lib.decDigits n.natAbs).length ≤ 20 := by rw [Lib.decDigits_length]; exact Lib.nDigits_le20 _ (by omega)
    clear hfin
    generalize Lib.decDigits n.natAbs = dd at *
    go_enter Tryd.func26, Tryd.ntmps26
    go_wp2_with fail
    rw [NE.out]
    refine (D.out _).mono ?_
    rintro e w1 ⟨rfl, hb⟩
    go_wp2_with fail
    go_ret
    exact ⟨by rw [← HFIN.out]; rfl, hb⟩
  · have hfin : (⟨#[105]⟩ : ByteArray) ++ ⟨(Lib.decDigits n.toNat).toArray⟩ ++ ⟨#[59]⟩ = ⟨(intL n).toArray⟩ := by
      refine WideShapes.bytes_inj ?_
      simp only [ByteArray.data_append, Array.toList_append]
      unfold intL Lib.itoa
      rw [if_neg hn]
    have HFIN := Lib.hid hfin
    have D := Lib.hid (fun w => refdigits_any n.toNat w (by omega))
    have hdl : (Lib.decDigits n.toNat).length ≤ 20 := by rw [Lib.decDigits_length]; exact Lib.nDigits_le20 _ (by omega)
    clear hfin
    generalize Lib.decDigits n.toNat = dd at *
    rw [Int.toNat_of_nonneg (by omega)] at D
    go_enter Tryd.func26, Tryd.ntmps26
    go_wp2_with fail
    refine (D.out _).mono ?_
    rintro e w1 ⟨rfl, hb⟩
    go_wp2_with fail
    go_ret
    exact ⟨by rw [← HFIN.out]; rfl, hb⟩
set_option maxHeartbeats 1000000 in
theorem reftext_any (t : ByteArray) (w : World) (ht : t.size ≤ 100000) :
    Calls Tryd.prog 27 #[.string t] w fun e w' => e = .returned (.string ⟨(textL t.data.toList).toArray⟩) ∧ Below w.heap.size w w' := by
  have hfin : (⟨(Lib.decDigits t.size).toArray⟩ : ByteArray) ++ ⟨#[58]⟩ ++ t = ⟨(textL t.data.toList).toArray⟩ := by
    refine WideShapes.bytes_inj ?_
    simp only [ByteArray.data_append, Array.toList_append]
    unfold textL
    rw [Lib.itoa_nonneg]
    simp
  have hdl : (Lib.decDigits t.size).length ≤ 20 := by rw [Lib.decDigits_length]; exact Lib.nDigits_le20 _ (by omega)
  have HFIN := Lib.hid hfin
  have D := Lib.hid (fun w => refdigits_any t.size w (by omega))
  clear hfin
  generalize Lib.decDigits t.size = dd at *
  go_enter Tryd.func27, Tryd.ntmps27
  go_wp2_with fail
  refine (D.out _).mono ?_
  rintro e w1 ⟨rfl, hb⟩
  go_wp2_with fail
  go_ret
  exact ⟨by rw [← HFIN.out]; rfl, hb⟩
end Go.Proofs.YtjiehfjpejoeeaaDoor
