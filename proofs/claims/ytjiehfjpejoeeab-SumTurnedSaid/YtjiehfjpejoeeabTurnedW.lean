/-
  THE WALK of the law SumTurned: whatever the text and the place, it returns true and writes to nothing that was there.
-/
import Derived.Test.YtjiehfjpejoeeabSum3
import Derived.Deep.QuietTactic
import Derived.BigQuiet
import Derived.IntWalk
import Derived.Deep.RegionHeld3
import Derived.Lib.SmallJoins
namespace Go.Proofs.Ytjiehfjpejoeeab
open Go.RowKit

theorem beq_beq {a b c d : Nat} (h : a = b ↔ c = d) : (((a : Int) == (b : Int)) == ((c : Int) == (d : Int))) = true := by
  rw [beq_iff_eq, Bool.eq_iff_iff, beq_iff_eq, beq_iff_eq]
  omega

theorem below_undrawn {w w1 : World} {n : Nat} (h : Below (w.drewN n).heap.size (w.drewN n) w1) : Below w.heap.size w w1 := ⟨h.os, h.tape, h.output, h.size, h.block⟩

theorem turned_lists (t : ByteArray) (k : Nat) (h : k + 1 < t.size) :
    ∃ (l r : List UInt8) (c d : UInt8), t.data.toList = l ++ c :: d :: r ∧ (t.extract 0 k ++ t.extract (k + 1) (k + 2) ++ t.extract k (k + 1) ++ t.extract (k + 2) t.size).data.toList = l ++ d :: c :: r ∧ t[k] = c ∧ t[k + 1] = d := by
  have hl : k + 1 < t.data.toList.length := by simpa using h
  refine ⟨t.data.toList.take k, t.data.toList.drop (k + 2), t[k], t[k + 1], ?_, ?_, rfl, rfl⟩
  · conv => lhs; rw [← List.take_append_drop k t.data.toList, List.drop_eq_getElem_cons (by omega), List.drop_eq_getElem_cons (by omega)]
    rfl
  · simp only [ByteArray.data_append, Array.toList_append, Lib.extract_data, List.append_assoc]
    rw [List.drop_eq_getElem_cons (i := k) (by omega), List.drop_eq_getElem_cons (i := k + 1) (by omega)]
    simp
    exact ⟨rfl, rfl, List.take_of_length_le (by simp)⟩

set_option maxHeartbeats 1000000 in
theorem turned_walk (a0 : ByteArray) (a1 : Int) (w0 : a0.size ≤ maxLen) (w1 : (Lit.int .i64 a1).wf = true) (w : World) :
    Calls Try.prog 3 #[.string a0, .int .i64 a1] w fun e w' => e = .returned (.bool true) ∧ Below w.heap.size w w' := by
  have hcs := cutB_size a0 3000
  have hcut := cut_any a0 3000 w w0 (by omega)
  generalize cutB a0 3000 = t at *
  by_cases hr : a1 < 0 ∨ (t.size : Int) - 1 ≤ a1
  · have hr1 : (decide (a1 < 0) || decide ((t.size : Int) - 1 ≤ a1)) = true := by simpa using hr
    go_enter Try.func3, Try.ntmps3
    go_wp2_with fail
    refine hcut.mono ?_
    rintro e w' ⟨rfl, rfl⟩
    go_wp2_with fail
    all_goals
      refine (awake_any _).mono ?_
      rintro e w' ⟨rfl, hb⟩
      go_wp2_with fail
      go_ret
      exact ⟨rfl, hb⟩
  · obtain ⟨k, rfl⟩ : ∃ k : Nat, a1 = k := ⟨a1.toNat, by omega⟩
    have hk : k + 1 < t.size := by omega
    clear hr
    obtain ⟨l, r, c, d, ht, hu, hc, hd⟩ := turned_lists t k hk
    have HT := Lib.hid ht
    have HU := Lib.hid hu
    have HC := Lib.hid hc
    have HD := Lib.hid hd
    clear ht hu hc hd
    go_enter Try.func3, Try.ntmps3
    go_wp2_with fail
    refine hcut.mono ?_
    rintro e w' ⟨rfl, rfl⟩
    go_wp2_with fail
    go_quiet (fail)
    have hus : (t.extract 0 k ++ t.extract (k + 1) (k + 2) ++ t.extract k (k + 1) ++ t.extract (k + 2) t.size).size ≤ maxLen := by
      have h1 := congrArg List.length HT.out
      have h2 := congrArg List.length HU.out
      refine maxLen8 _ ?_
      simp only [Array.length_toList, List.length_append, List.length_cons, ByteArray.size_data] at h1 h2
      omega
    generalize t.extract 0 k ++ t.extract (k + 1) (k + 2) ++ t.extract k (k + 1) ++ t.extract (k + 2) t.size = u at *
    have hts := maxLen8 t.size (by omega)
    have hk1 : (k : Int) + 1 < (t.size : Int) := by omega
    have hk0 : (k : Int) < (t.size : Int) := by omega
    go_wp2_with fail
    have hk2 : (0 : Int) ≤ (k : Int) + 1 := by omega
    have hk3 : ((k : Int) + 1).toNat = k + 1 := by omega
    have hk4 : IntKind.i64.wrap ((k : Int) + 1) = (k : Int) + 1 := IntWalk.i64_in _ (by omega)
    have hfin : Ad.sum u.data.toList = Ad.sum t.data.toList ↔ t[k].toNat = t[k + 1].toNat := by
      rw [HU.out, HT.out, HC.out, HD.out, Ad.turned]
      exact ⟨fun h => by rw [h], fun h => UInt8.toNat.inj h⟩
    have HFin := Lib.hid (beq_beq hfin)
    clear hfin
    go_region_held3 (fun _ => True) (exact trivial) (first | (go_at_call 7; refine (awake_any _).mono ?_; rintro e wa ⟨rfl, hba⟩; have hB := below_undrawn hba) | (go_at_call 8; refine (of_any _ _ (by assumption)).mono ?_; rintro e wu ⟨rfl, hbu⟩; replace hB := hB.trans (hbu.mono hB.size)))
    all_goals
      go_wp2_with fail
      go_ret
      exact ⟨congrArg (fun b => Ending.returned (Value.bool b)) HFin.out, hB⟩
end Go.Proofs.Ytjiehfjpejoeeab
