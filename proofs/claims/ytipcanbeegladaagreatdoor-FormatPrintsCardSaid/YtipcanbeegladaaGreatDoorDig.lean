/-
  CONTRACT of the document's own answer for decimal digits (scriberef01.Digits): the digits as the library's specification writes them; it writes to nothing that was there.
-/
import Derived.Test.YtipcanbeegladaaGreatDoorRows
import Derived.WalkKit
import Derived.WalkSpells
import Derived.WalkLawsBesides
import Derived.Lib.Hide
import Derived.Deep.QuietTactic
import Derived.BigQuiet
import Derived.IntWalk
import Derived.Lib.Strings
import Derived.Lib.IndexBytes
import Derived.Lib.ItoaLen
import Derived.Lib.BufferRead
import Derived.Lib.AppendStr
import Derived.OwnWalk
namespace Go.Proofs.YtipcanbeegladaaGreatDoor
open Go.RowKit

/-- 'string([]byte{c})' of a new array of one byte. -/
theorem conv_one (c : UInt8) (n : Int) (hn : n = c.toNat) (a : Addr) (w : World) (h : w.cell? a = some (.int .u8 n)) : (convert 39 9 (.slice (some a) 1 1)).run Tryz.prog w = .ok (.string ⟨#[c]⟩) w := by
  refine run_convert_bytes_back (P := Tryz.prog) _ 39 9 5 _ 1 [c] Tryz.underlying39 Tryz.underlying5 Tryz.underlying9 ?_
  intro j hj
  obtain rfl : j = 0 := by simpa using hj
  rw [show a.add 0 = a from by simp [Addr.add], h, hn]
  rfl
def dch (u : Nat) : UInt8 := UInt8.ofNat (48 + u % 10)
/-- The digits of u that are to come yet, k having been made. -/
def pend (u k : Nat) : List UInt8 := if k ≠ 0 ∧ u = 0 then [] else Lib.decDigits u
theorem pend_step (u k : Nat) (h : k = 0 ∨ u ≠ 0) : pend u k = pend (u / 10) (k + 1) ++ [dch u] := by
  unfold pend dch
  rw [if_neg (by omega)]
  by_cases h2 : u < 10
  · rw [if_pos ⟨by omega, by omega⟩, Lib.decDigits_one h2, show u % 10 = u from by omega]; rfl
  · rw [if_neg (by omega), Lib.decDigits, dif_neg h2]
theorem digit_val (u : Nat) : (48 : Int) + (u : Int) % 10 = ((dch u).toNat : Int) := by
  unfold dch
  rw [UInt8.toNat_ofNat_of_lt' (by show 48 + u % 10 < 256; omega)]; omega

set_option maxHeartbeats 2000000 in
set_option maxRecDepth 100000 in
theorem refdigits_any (n : Nat) (w : World) (hn : n < 18446744073709551616) :
    Calls Tryz.prog 37 #[.int .u64 n] w fun e w' => e = .returned (.string ⟨(Lib.decDigits n).toArray⟩) ∧ Below w.heap.size w w' := by
  have HN := Lib.hid (show n < 10 ^ 20 from Nat.lt_of_lt_of_le hn (by decide))
  have hn' : n ≤ 18446744073709551615 := by omega
  clear hn
  go_enter Tryz.func37, Tryz.ntmps37
  go_wp2
  go_loopw [0, 3, 4] (fun nv s i wr => ∃ (k u : Nat) (t : ByteArray), k ≤ 20 ∧ u ≤ 18446744073709551615 ∧ nv = .int .u64 u ∧ s = .string t ∧ i = .int .i64 k ∧ Hid (u < 10 ^ (20 - k)) ∧ Hid (Lib.decDigits n = pend u k ++ t.data.toList) ∧ Hid (t.size = k) ∧ Below w.heap.size w wr) (fun _ _ i _ => 20 - (intOf i).toNat)
  case atStart => exact ⟨0, n, ⟨#[]⟩, by omega, hn', rfl, rfl, rfl, Lib.hid HN.out, Lib.hid (by simp [pend]), Lib.hid rfl, Below.refl _ _⟩
  case round =>
    obtain ⟨k, u, t, hk, hub, rfl, rfl, rfl, HU, HD, HT, hbel⟩ := hrel
    by_cases hgo : k = 0 ∨ u ≠ 0
    · have hk20 : k < 20 := by
        rcases hgo with h | h
        · omega
        · by_cases h20 : k = 20
          · have := HU.out; rw [h20] at this; simp at this; omega
          · omega
      have HS := Lib.hid (pend_step u k hgo)
      have hU1 : Hid (u / 10 < 10 ^ (20 - (k + 1))) := by
        refine Lib.hid ?_
        have h1 := HU.out
        rw [show 20 - k = (20 - (k + 1)) + 1 from by omega, Nat.pow_succ] at h1
        omega
      have hcv := conv_one (dch u) (48 + (u : Int) % 10) (digit_val u) ⟨wr.heap.size, 0, none⟩ (wr.alloc (.cells #[.int .u8 (48 + (u : Int) % 10)] 5)) (by simp [go_sem])
      have hts : t.size ≤ 20 := by have := HT.out; omega
      rcases hgo with h | h
      · obtain rfl : k = 0 := h
        go_wp2
        go_roundw
        case rel => exact ⟨0 + 1, u / 10, _, by omega, by omega, by go_num, rfl, by go_num, hU1, Lib.hid (by rw [HD.out, HS.out, ByteArray.data_append, Array.toList_append, List.append_assoc]), Lib.hid (by rw [ByteArray.size_append, HT.out]; rfl), hbel.alloc hbel.size _⟩
        case measure => simp [intOf]
      · have hup : (0 : Int) < (u : Int) := by omega
        clear h
        by_cases hk0 : k = 0
        · obtain rfl : k = 0 := hk0
          go_wp2
          go_roundw
          case rel => exact ⟨0 + 1, u / 10, _, by omega, by omega, by go_num, rfl, by go_num, hU1, Lib.hid (by rw [HD.out, HS.out, ByteArray.data_append, Array.toList_append, List.append_assoc]), Lib.hid (by rw [ByteArray.size_append, HT.out]; rfl), hbel.alloc hbel.size _⟩
          case measure => simp [intOf]
        · have hkf : ((k : Int) == 0) = false := by rw [Bool.eq_false_iff]; simp; omega
          go_wp2
          go_roundw
          case rel => exact ⟨k + 1, u / 10, _, by omega, by omega, by go_num, rfl, by go_num, hU1, Lib.hid (by rw [HD.out, HS.out, ByteArray.data_append, Array.toList_append, List.append_assoc]), Lib.hid (by rw [ByteArray.size_append, HT.out]; show 1 + k = k + 1; omega), hbel.alloc hbel.size _⟩
          case measure => simp [intOf]; omega
    · have hk0 : k ≠ 0 := by omega
      obtain rfl : u = 0 := by omega
      have hkf : ((k : Int) == 0) = false := by rw [Bool.eq_false_iff]; simp; omega
      have HF : Hid (t = ⟨(Lib.decDigits n).toArray⟩) := Lib.hid (WideShapes.bytes_inj (by rw [HD.out]; simp [pend, hk0]))
      clear hgo hk0
      by_cases hk20 : k < 20
      · go_wp2
        go_ret
        exact ⟨by rw [← HF.out]; rfl, hbel⟩
      · go_wp2
        go_ret
        exact ⟨by rw [← HF.out]; rfl, hbel⟩
end Go.Proofs.YtipcanbeegladaaGreatDoor
