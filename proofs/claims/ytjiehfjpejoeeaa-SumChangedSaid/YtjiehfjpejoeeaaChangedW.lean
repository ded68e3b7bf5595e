/-
  THE WALK of the law SumChanged: whatever the text, the place and the byte, it returns true and writes to nothing that was there.
-/
import Derived.Test.YtjiehfjpejoeeaaSum3
import Derived.Deep.QuietTactic
import Derived.BigQuiet
import Derived.IntWalk
import Derived.Deep.RegionHeld3
import Derived.Lib.SmallJoins
namespace Go.Proofs.Ytjiehfjpejoeeaa
open Go.RowKit

/-- 'string([]byte{c})' of a new array of one byte. -/
theorem conv1 (c : Nat) (hc : c < 256) (a : Addr) (w : World) (h : w.cell? a = some (.int .u8 c)) : (convert 39 9 (.slice (some a) 1 1)).run Try.prog w = .ok (.string ⟨#[UInt8.ofNat c]⟩) w := by
  have e : (c : Int) = ((UInt8.ofNat c).toNat : Int) := by rw [UInt8.toNat_ofNat_of_lt' hc]
  refine run_convert_bytes_back (P := Try.prog) _ 39 9 5 _ 1 [UInt8.ofNat c] Try.underlying39 Try.underlying5 Try.underlying9 ?_
  intro j hj
  obtain rfl : j = 0 := by simpa using hj
  rw [show a.add 0 = a from by simp [Addr.add], h, e]
  rfl

theorem changed_lists (t : ByteArray) (k : Nat) (c : UInt8) (h : k < t.size) :
    ∃ (l r : List UInt8) (d : UInt8), t.data.toList = l ++ d :: r ∧ (t.extract 0 k ++ (⟨#[c]⟩ : ByteArray) ++ t.extract (k + 1) t.size).data.toList = l ++ c :: r := by
  have hl : k < t.data.toList.length := by simpa using h
  refine ⟨t.data.toList.take k, t.data.toList.drop (k + 1), t[k], ?_, ?_⟩
  · conv => lhs; rw [← List.take_append_drop k t.data.toList, List.drop_eq_getElem_cons (by omega)]
    rfl
  · simp only [ByteArray.data_append, Array.toList_append, Lib.extract_data, List.append_assoc]
    simp
    exact List.take_of_length_le (by simp)

set_option maxHeartbeats 1000000 in
theorem changed_walk (a0 : ByteArray) (a1 a2 : Int) (w0 : a0.size ≤ maxLen) (w1 : (Lit.int .i64 a1).wf = true) (w2 : (Lit.int .u8 a2).wf = true) (w : World) :
    Calls Try.prog 6 #[.string a0, .int .i64 a1, .int .u8 a2] w fun e w' => e = .returned (.bool true) ∧ Below w.heap.size w w' := by
  have hcs := cutB_size a0 3000
  have hcut := cut_any a0 3000 w w0 (by omega)
  generalize cutB a0 3000 = t at *
  by_cases hr : a1 < 0 ∨ (t.size : Int) ≤ a1
  · have hr1 : (decide (a1 < 0) || decide ((t.size : Int) ≤ a1)) = true := by simpa using hr
    go_enter Try.func6, Try.ntmps6
    go_wp2_with fail
    refine hcut.mono ?_
    rintro e w' ⟨rfl, rfl⟩
    go_wp2_with fail
    all_goals
      refine (awake_any _).mono ?_
      rintro e w' ⟨rfl, hb⟩
      go_wp2_with fail
      go_ret
      exact ⟨rfl, hb⟩
  · obtain ⟨k, rfl⟩ : ∃ k : Nat, a1 = k := ⟨a1.toNat, by omega⟩
    have g2 := bounds_u8 w2
    obtain ⟨c, rfl⟩ : ∃ c : Nat, a2 = c := ⟨a2.toNat, by omega⟩
    have hc : c < 256 := by omega
    have hk : k < t.size := by omega
    clear hr
    obtain ⟨l, r, d, ht, hu⟩ := changed_lists t k (UInt8.ofNat c) hk
    have HT := Lib.hid ht
    have HU := Lib.hid hu
    clear ht hu
    have hk1 : (k : Int) + 1 ≤ (t.size : Int) := by omega
    have hk0 : (k : Int) < (t.size : Int) := by omega
    go_enter Try.func6, Try.ntmps6
    go_wp2_with fail
    refine hcut.mono ?_
    rintro e w' ⟨rfl, rfl⟩
    have hcv := conv1 c hc ⟨w.heap.size, 0, none⟩ ((w.alloc (.cells #[.int .u8 c] 5)).drew) (by simp [go_sem])
    have hk2 : k ≤ t.size := by omega
    have hk3 : k + 1 ≤ t.size := by omega
    go_wp2_with fail
    go_region
    have hus : (t.extract 0 k ++ { data := #[UInt8.ofNat c] } ++ t.extract (k + 1) t.size).size ≤ maxLen := by
      have h1 := congrArg List.length HT.out
      have h2 := congrArg List.length HU.out
      refine maxLen8 _ ?_
      simp only [Array.length_toList, List.length_append, List.length_cons, ByteArray.size_data] at h1 h2
      omega
    generalize t.extract 0 k ++ { data := #[UInt8.ofNat c] } ++ t.extract (k + 1) t.size = u at *
    have hts := maxLen8 t.size (by omega)
    obtain ⟨b, f1, f2⟩ : ∃ b : Bool, (((Ad.sum u.data.toList : Nat) : Int) == ((Ad.sum t.data.toList : Nat) : Int)) = b ∧ (u.toList == t.toList) = b := by
      refine ⟨decide (UInt8.ofNat c = d), ?_, ?_⟩
      · rw [Bool.eq_iff_iff, beq_iff_eq, Int.ofNat_inj, HU.out, HT.out, Ad.changed]; simp
      · rw [Lib.toList_data, Lib.toList_data, HU.out, HT.out, Bool.eq_iff_iff]; simp
    have F1 := Lib.hid f1
    have F2 := Lib.hid f2
    clear f1 f2 hcv
    go_wp2_with fail
    refine (awake_any _).mono ?_
    rintro e w1 ⟨rfl, hb1⟩
    have h1 : Below w.heap.size w w1 := ((Below.refl _ _).alloc (Nat.le_refl _) (.cells #[.int .u8 c] 5)).trans (Below.mono (B := (w.alloc (.cells #[.int .u8 c] 5)).heap.size) ⟨hb1.os, hb1.tape, hb1.output, hb1.size, hb1.block⟩ (by simp))
    clear hb1
    go_wp2_with fail
    refine (of_any u _ hus).mono ?_
    rintro e w2 ⟨rfl, hb2⟩
    have h2 := h1.trans (hb2.mono h1.size)
    clear h1 hb2
    go_wp2_with fail
    refine (of_any t _ hts).mono ?_
    rintro e w3 ⟨rfl, hb3⟩
    have h3 := h2.trans (hb3.mono h2.size)
    clear h2 hb3
    have g1 := F1.out
    have g3 := F2.out
    cases b
    all_goals
      go_wp2_with fail
      go_ret
      exact ⟨rfl, h3⟩
end Go.Proofs.Ytjiehfjpejoeeaa
