/-
  THE WALK of the law SumSums: whatever the text, the place of the cut and the eight signs, it returns true and writes to nothing that was there.
-/
import Derived.Test.YtjiehfjpejoeeaaRef
import Derived.Deep.QuietTactic
import Derived.BigQuiet
import Derived.IntWalk
import Derived.Deep.RegionHeld3
namespace Go.Proofs.Ytjiehfjpejoeeaa
open Go.RowKit

/-- Is the sign so far one of eight digits? -/
def fm (h : ByteArray) (k : Nat) : Bool := h.size == 8 && (h.data.toList.take k).all (fun c => hexd c.toNat)
theorem fm_succ (h : ByteArray) (k : Nat) (hk : k < h.size) : fm h (k + 1) = (fm h k && hexd h[k].toNat) := by
  unfold fm; rw [Ad.take_snoc h k hk, List.all_append]; simp [Bool.and_assoc]
theorem fm_zero (h : ByteArray) : fm h 0 = ((h.size : Int) == 8) := by
  unfold fm; rw [Bool.eq_iff_iff]; simp; omega
theorem fm_end (h : ByteArray) (k : Nat) (hk : ¬ k < h.size) : fm h k = isHexB h := by
  unfold fm isHexB
  rw [List.take_of_length_le (by simp; omega), Bool.and_comm]; simp
theorem sums_cases (h t : ByteArray) : ∃ b c : Bool, isHexB h = b ∧ (h.toList == (hexS (Ad.sum t.data.toList)).toList) = c ∧ checkV h t = if b = true then (if c = true then 0 else 4) else 3 := by
  cases hx : isHexB h with
  | false => exact ⟨_, _, rfl, rfl, by simp [checkV, hx]⟩
  | true =>
    by_cases e : h = hexS (Ad.sum t.data.toList)
    · refine ⟨_, true, rfl, by rw [← e]; simp, by simp [checkV, hx, ← e]⟩
    · exact ⟨_, false, rfl, bytes_ne e, by simp [checkV, hx, e]⟩
/-- New, Add the first part, Add the second, Value: as so many contracts over plain numbers. -/
theorem parts_any (t : ByteArray) (k : Nat) (ht : t.size ≤ 8000) : ∃ p1 q1 p2 q2 : Nat,
    (∀ w, Calls Try.prog 15 #[.agg #[.int .u64 1, .int .u64 0], .string (t.extract 0 k)] w fun e w' => e = .returned (.agg #[.int .u64 p1, .int .u64 q1]) ∧ Below w.heap.size w w') ∧
    (∀ w, Calls Try.prog 15 #[.agg #[.int .u64 p1, .int .u64 q1], .string (t.extract k t.size)] w fun e w' => e = .returned (.agg #[.int .u64 p2, .int .u64 q2]) ∧ Below w.heap.size w w') ∧
    (∀ w, Calls Try.prog 16 #[.agg #[.int .u64 p2, .int .u64 q2]] w fun e w' => e = .returned (.int .u32 (Ad.sum t.data.toList : Nat)) ∧ Below w.heap.size w w') := by
  have hl : (t.extract 0 k).data.toList ++ (t.extract k t.size).data.toList = t.data.toList := by
    rw [Lib.extract_to_end, Lib.extract_data]; simp
  refine ⟨Ad.ha 1 (t.extract 0 k).data.toList, Ad.hb 1 0 (t.extract 0 k).data.toList, Ad.A t.data.toList, Ad.B t.data.toList, fun w => ?_, fun w => ?_, fun w => ?_⟩
  · exact add_any 1 0 _ w (by omega) (by omega) (maxLen8 _ (by simp; omega))
  · have := add_any _ _ (t.extract k t.size) w (Ad.ha_lt 1 (t.extract 0 k).data.toList) (Ad.hb_lt 1 0 (t.extract 0 k).data.toList) (maxLen8 _ (by simp; omega))
    rwa [Ad.ha_ha, Ad.hb_hb, hl] at this
  · exact value_any _ _ w (Nat.lt_trans (Ad.A_lt _) (by decide)) (Nat.lt_trans (Ad.B_lt _) (by decide))

set_option maxHeartbeats 1000000 in
theorem sums_walk (a0 : ByteArray) (a1 : Int) (a2 : ByteArray) (w0 : a0.size ≤ maxLen) (w1 : (Lit.int .i64 a1).wf = true) (w2 : a2.size ≤ maxLen) (w : World) :
    Calls Try.prog 3 #[.string a0, .int .i64 a1, .string a2] w fun e w' => e = .returned (.bool true) ∧ Below w.heap.size w w' := by
  have hst := cutB_size a0 8000
  have hsh := cutB_size a2 12
  have CT := Lib.hid (fun w => cut_any a0 8000 w w0 (by omega))
  have CH := Lib.hid (fun w => cut_any a2 12 w w2 (by omega))
  generalize cutB a0 8000 = t at *
  generalize cutB a2 12 = h at *
  have ls := Ad.sum_lt t.data.toList
  have mt := maxLen8 t.size (by omega)
  have mh := maxLen8 h.size (by omega)
  have mx := maxLen8 (hexS (Ad.sum t.data.toList)).size (by rw [show (hexS (Ad.sum t.data.toList)).size = 8 from rfl]; omega)
  go_enter Try.func3, Try.ntmps3
  go_wp2_with fail
  refine (CT.out _).mono ?_
  rintro e w' ⟨rfl, rfl⟩
  go_wp2_with fail
  refine (CH.out _).mono ?_
  rintro e w' ⟨rfl, rfl⟩
  go_wp2_with fail
  refine (refof_any t _ hst).mono ?_
  rintro e w' ⟨rfl, rfl⟩
  go_wp2_with fail
  refine (awake_any _).mono ?_
  rintro e w1 ⟨rfl, h1⟩
  go_wp2_with fail
  refine (of_any t _ mt).mono ?_
  rintro e w2 ⟨rfl, hb2⟩
  have h2 := h1.trans (hb2.mono h1.size)
  clear h1 hb2
  go_wp2_with fail
  refine (hex_any _ _ ls).mono ?_
  rintro e w3 ⟨rfl, hb3⟩
  have h3 := h2.trans (hb3.mono h2.size)
  clear h2 hb3
  go_wp2_with fail
  refine (refhex_any _ _ ls).mono ?_
  rintro e w4 ⟨rfl, hb4⟩
  have h4 := h3.trans (hb4.mono h3.size)
  clear h3 hb4
  go_wp2_with fail
  refine (hex_any _ _ ls).mono ?_
  rintro e w5 ⟨rfl, hb5⟩
  have h5 := h4.trans (hb5.mono h4.size)
  clear h4 hb5
  go_wp2_with fail
  refine (check_any _ t _ mx mt).mono ?_
  rintro e w6 ⟨rfl, hb6⟩
  have h6 := h5.trans (hb6.mono h5.size)
  clear h5 hb6
  rw [check_own]
  go_wp2_with fail
  go_loop [9, 10] (fun f i => ∃ k : Nat, k ≤ h.size ∧ f = .bool (fm h k) ∧ i = .int .i64 k) (fun _ i => h.size - (intOf i).toNat)
  case atStart => exact ⟨0, Nat.zero_le _, by rw [fm_zero], rfl⟩
  case round =>
    obtain ⟨k, hk, rfl, rfl⟩ := hrel
    by_cases hlt : k < h.size
    · have HS := Lib.hid (fm_succ h k hlt)
      generalize fm h k = b at *
      have hcb := h[k].toNat_lt
      cases b with
      | false =>
        go_wp2
        go_round
        case rel => exact ⟨k + 1, by omega, by rw [HS.out]; rfl, by go_num⟩
        case measure => simp [intOf]; omega
      | true =>
        by_cases c1 : 48 ≤ h[k].toNat
        · by_cases c2 : h[k].toNat ≤ 57
          · go_wp2
            go_round
            case rel => exact ⟨k + 1, by omega, by rw [HS.out, Value.bool.injEq, Bool.eq_iff_iff]; simp [hexd]; omega, by go_num⟩
            case measure => simp [intOf]; omega
          · by_cases c3 : 97 ≤ h[k].toNat
            · by_cases c4 : h[k].toNat ≤ 102
              · go_wp2
                go_round
                case rel => exact ⟨k + 1, by omega, by rw [HS.out, Value.bool.injEq, Bool.eq_iff_iff]; simp [hexd]; omega, by go_num⟩
                case measure => simp [intOf]; omega
              · go_wp2
                go_round
                case rel => exact ⟨k + 1, by omega, by rw [HS.out, Value.bool.injEq, Bool.eq_iff_iff]; simp [hexd]; omega, by go_num⟩
                case measure => simp [intOf]; omega
            · go_wp2
              go_round
              case rel => exact ⟨k + 1, by omega, by rw [HS.out, Value.bool.injEq, Bool.eq_iff_iff]; simp [hexd]; omega, by go_num⟩
              case measure => simp [intOf]; omega
        · have c3 : ¬ 97 ≤ h[k].toNat := by omega
          go_wp2
          go_round
          case rel => exact ⟨k + 1, by omega, by rw [HS.out, Value.bool.injEq, Bool.eq_iff_iff]; simp [hexd]; omega, by go_num⟩
          case measure => simp [intOf]; omega
    · rw [fm_end h k hlt]
      obtain ⟨b, c, e1, e3, e2⟩ := sums_cases h t
      rw [e1]
      clear e1
      cases b <;> cases c <;> simp only [if_true, Bool.false_eq_true, if_false] at e2
      all_goals
        have E2 := Lib.hid e2
        clear e2
        go_wp2_with fail
        try (go_at_call 12; refine (refhex_any _ _ ls).mono ?_; rintro e wz ⟨rfl, hbz⟩; replace h6 := h6.trans (hbz.mono h6.size); go_wp2_with fail)
        refine (check_any h t _ mh mt).mono ?_
        rintro e w7 ⟨rfl, hb7⟩
        have h7 := h6.trans (hb7.mono h6.size)
        clear h6 hb7
        rw [E2.out]
        go_wp2_with fail
        by_cases hr : a1 < 0
        · go_quiet (fail)
          go_wp2_with fail
          go_ret
          exact ⟨rfl, ⟨h7.os, h7.tape, h7.output, h7.size, h7.block⟩⟩
        · have hd0 : decide (a1 < 0) = false := by simpa using hr
          by_cases hr2 : (t.size : Int) < a1
          · go_quiet (fail)
            go_wp2_with fail
            go_ret
            exact ⟨rfl, ⟨h7.os, h7.tape, h7.output, h7.size, h7.block⟩⟩
          · obtain ⟨k, rfl⟩ : ∃ k : Nat, a1 = k := ⟨a1.toNat, by omega⟩
            have hk : k ≤ t.size := by omega
            have hk2 : (k : Int) ≤ (t.size : Int) := by omega
            have hd1 : decide (t.size < k) = false := by simp; omega
            have hd3 : decide ((t.size : Int) < (k : Int)) = false := by simp; omega
            obtain ⟨p1, q1, p2, q2, n1, n2, n3⟩ := parts_any t k hst
            have N1 := Lib.hid n1
            have N2 := Lib.hid n2
            have N3 := Lib.hid n3
            clear n1 n2 n3 hr hr2
            go_region_held3 (fun _ => True) (exact trivial) (first | (go_at_call 14; refine (new_any _).mono ?_; rintro e wa ⟨rfl, hba⟩; have h8 := h7.trans (Below.mono ⟨hba.os, hba.tape, hba.output, hba.size, hba.block⟩ h7.size)) | (go_at_call_of 15 (Value.string (t.extract 0 k)); refine (N1.out _).mono ?_; rintro e wb ⟨rfl, hbb⟩; have h9 := h8.trans (hbb.mono h8.size)) | (go_at_call_of 15 (Value.string (t.extract k t.size)); refine (N2.out _).mono ?_; rintro e wc ⟨rfl, hbc⟩; have h10 := h9.trans (hbc.mono h9.size)) | (go_at_call 16; refine (N3.out _).mono ?_; rintro e wd ⟨rfl, hbd⟩; have h11 := h10.trans (hbd.mono h10.size)))
            all_goals
              go_wp2_with fail
              go_ret
              exact ⟨by simp, h11⟩
end Go.Proofs.Ytjiehfjpejoeeaa
