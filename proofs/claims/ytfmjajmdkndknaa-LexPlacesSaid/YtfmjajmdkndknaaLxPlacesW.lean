/-
  THE WALK of the law LexPlaces: whatever the text, it returns true and writes to nothing that was there.
-/
import Derived.Test.YtfmjajmdkndknaaLxAw
import Derived.Test.YtfmjajmdkndknaaLxRise
import Derived.Deep.QuietTactic
import Derived.BigQuiet
namespace Go.Proofs.Ytfmjajmdkndknaa
open Go.RowKit

set_option maxHeartbeats 4000000 in
set_option maxRecDepth 100000 in
theorem places_walk (s : ByteArray) (hs : s.size ≤ maxLen) (w : World) :
    Calls Try.prog 4 #[.string s] w fun e w' => e = .returned (.bool true) ∧ Below w.heap.size w w' := by
  have C1 := Lib.hid fun W => cut_any s 500 W hs (by omega)
  have l1 := cutB_size s 500
  generalize cutB s 500 = x at *
  have AW := Lib.hid fun W => awake_any W
  clear hs
  cases hx : lexL x.data.toList with
  | error p =>
    have C2 := Lib.hid fun W => lex_err x p W (by omega) hx
    have hp := lexF_err _ _ _ _ _ hx
    rw [ba_sz] at hp
    have hpi : (p : Int) < (x.size : Int) := by omega
    clear hx
    go_enter Try.func4, Try.ntmps4
    go_wp2_with fail
    refine (C1.out _).mono ?_
    rintro e w1 ⟨rfl, rfl⟩
    go_wp2_with fail
    refine (C2.out _).mono ?_
    rintro e w2 ⟨rfl, hb2⟩
    have HB2 := Lib.hid hb2
    clear hb2
    go_wp2_with fail
    refine (AW.out _).mono ?_
    rintro e w3 ⟨rfl, hb3⟩
    have HB3 := Lib.hid (HB2.out.trans (hb3.mono HB2.out.size))
    clear hb3 HB2
    go_wp2_with fail
    go_ret
    first | exact ⟨rfl, HB3.out⟩ | exact ⟨by simp, HB3.out⟩
  | ok r =>
    have C2 := Lib.hid fun W => lex_ok x r W (by omega) hx
    have hr := lexF_rise _ _ _ _ _ hx
    rw [Nat.zero_add, ba_sz] at hr
    have HR := Lib.hid (fun i hi => rise_row hr i hi)
    have hlr : r.length ≤ 500 := by have := hr.len (Nat.zero_le _); omega
    clear hx hr
    go_enter Try.func4, Try.ntmps4
    go_wp2_with fail
    refine (C1.out _).mono ?_
    rintro e w1 ⟨rfl, rfl⟩
    go_wp2_with fail
    refine (C2.out _).mono ?_
    rintro e w2 ⟨g, c, rfl, t2, hb2⟩
    have hl : (r ++ [endT x.size]).length = r.length + 1 := by simp
    have hk0 : (r ++ [endT x.size])[r.length]'(by omega) = endT x.size := by simp
    have dk := t2.k r.length (by omega)
    have da := t2.a r.length (by omega)
    rw [hk0] at dk da
    have dk' : w2.cell? ⟨g, r.length * 3, none⟩ = some (.int .i64 0) := dk
    have da' : w2.cell? ⟨g, r.length * 3 + 2, none⟩ = some (.int .i64 (x.size : Int)) := da
    have HT2 := Lib.hid t2
    have HB2 := Lib.hid hb2
    clear dk da t2 hb2 hk0
    go_wp2_with fail
    clear dk' da'
    have HI := Lib.hid (And.intro HT2.out HB2.out)
    clear HT2 HB2
    go_loopw [60] (fun iv wr => ∃ k : Nat, k ≤ r.length + 1 ∧ iv = .int .i64 k ∧ Hid (TAt wr g (r ++ [endT x.size]) ∧ Below w.heap.size w wr)) (fun iv _ => r.length + 1 - (intOf iv).toNat)
    case atStart => exact ⟨0, Nat.zero_le _, rfl, HI⟩
    case round =>
      obtain ⟨k, hk, rfl, HX⟩ := hrel
      by_cases hlt : k < r.length + 1
      · have hlt' : k < (r ++ [endT x.size]).length := by omega
        obtain ⟨hk0, hpv⟩ := HR.out k hlt'
        have d0 := HX.out.1.k k hlt'
        have d2 := HX.out.1.a k hlt'
        change ((r ++ [endT x.size])[k]'hlt').k = 0 ↔ k = r.length at hk0
        by_cases h0 : 0 < k
        · have hpv := hpv h0
          have p2 := HX.out.1.a (k - 1) (Nat.lt_of_le_of_lt (Nat.sub_le _ _) hlt')
          change ((r ++ [endT x.size])[k - 1]'(Nat.lt_of_le_of_lt (Nat.sub_le _ _) hlt')).a < ((r ++ [endT x.size])[k]'hlt').a at hpv
          have hpi : (((r ++ [endT x.size])[k - 1]'(Nat.lt_of_le_of_lt (Nat.sub_le _ _) hlt')).a : Int) < (((r ++ [endT x.size])[k]'hlt').a : Int) := by omega
          clear hpv
          generalize (((r ++ [endT x.size])[k]'hlt').a : Int) = ai at *
          generalize (((r ++ [endT x.size])[k - 1]'(Nat.lt_of_le_of_lt (Nat.sub_le _ _) hlt')).a : Int) = pi at *
          have hki : (((r ++ [endT x.size])[k]'hlt').k : Int) = 0 ∨ (((r ++ [endT x.size])[k]'hlt').k : Int) ≠ 0 := by omega
          clear hk0
          generalize (((r ++ [endT x.size])[k]'hlt').k : Int) = ki at *
          have b2 : decide (ai ≤ pi) = false := decide_eq_false (by omega)
          have b4 : decide (ai < pi) = false := decide_eq_false (by omega)
          obtain ⟨j, rfl⟩ : ∃ j, k = j + 1 := ⟨k - 1, by omega⟩
          rw [Nat.add_sub_cancel] at p2
          have b1 : decide ((0 : Int) < (j : Int) + 1) = true := decide_eq_true (by omega)
          have b5 : (j : Int) + 1 < (r.length : Int) + 1 := by omega
          have b6 : (j : Int) < (r.length : Int) + 1 := by omega
          have b7 : (0 : Int) ≤ (j : Int) + 1 := by omega
          have b8 : (0 : Int) ≤ (j : Int) := by omega
          have w1 : IntKind.i64.wrap (j : Int) = (j : Int) := by rw [IntKind.wrap_i64]; omega
          rcases hki with hki | hki
          · have b3 : (ki == 0) = true := by simp [hki]
            clear hki
            go_wp2_with fail
            go_quiet (fail)
            go_wp2_with fail
            go_roundw
            case rel => exact ⟨j + 1 + 1, by omega, by go_num, Lib.hid ⟨⟨HX.out.1.lt, HX.out.1.k, HX.out.1.t, HX.out.1.a⟩, HX.out.2.trans ⟨rfl, rfl, rfl, Nat.le_refl _, fun _ _ => rfl⟩⟩⟩
            case measure => simp [intOf]; omega
          · have b3 : (ki == 0) = false := by simpa using hki
            clear hki
            go_wp2_with fail
            go_quiet (fail)
            go_wp2_with fail
            go_roundw
            case rel => exact ⟨j + 1 + 1, by omega, by go_num, Lib.hid ⟨⟨HX.out.1.lt, HX.out.1.k, HX.out.1.t, HX.out.1.a⟩, HX.out.2.trans ⟨rfl, rfl, rfl, Nat.le_refl _, fun _ _ => rfl⟩⟩⟩
            case measure => simp [intOf]; omega
        · obtain rfl : k = 0 := by omega
          clear hpv hk0
          have b1 : decide ((0 : Int) < 0) = false := by decide
          go_wp2_with fail
          go_quiet (fail)
          go_wp2_with fail
          go_roundw
          case rel => exact ⟨1, by omega, by go_num, Lib.hid ⟨⟨HX.out.1.lt, HX.out.1.k, HX.out.1.t, HX.out.1.a⟩, HX.out.2.trans ⟨rfl, rfl, rfl, Nat.le_refl _, fun _ _ => rfl⟩⟩⟩
          case measure => simp [intOf]
      · obtain rfl : k = r.length + 1 := by omega
        have HB := Lib.hid HX.out.2
        clear HX
        go_wp2_with fail
        refine (AW.out _).mono ?_
        rintro e w3 ⟨rfl, hb3⟩
        have HB3 := Lib.hid (HB.out.trans (hb3.mono HB.out.size))
        clear hb3 HB
        go_wp2_with fail
        go_ret
        exact ⟨rfl, HB3.out⟩
end Go.Proofs.Ytfmjajmdkndknaa
