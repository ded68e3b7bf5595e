/-
  CONTRACTS of layer 5's texts (num.grow, cutDigits, millionths, Text, Prefix, Looks): what each hands back; nothing that was there is written. Condition of Text: the library's table of powers of ten is as it was laid.
-/
import Derived.Test.YtipcanbeegladaaGreatDoorNumW1
import Derived.Test.YtipcanbeegladaaGreatDoorUint
import Derived.Shelf.Strings.SlTrimAscii
namespace Go.Proofs.YtipcanbeegladaaGreatDoor
open Go.RowKit

theorem grow_any (n : Nat) (c : UInt8) (w : World) (hn : n ≤ mostN) (h1 : 48 ≤ c.toNat) (h2 : c.toNat ≤ 57) :
    Calls Tryz.prog 88 #[.int .u64 n, .int .u8 (c.toNat : Int)] w fun e w' => e = .returned (.int .u64 ((min mostN (10 * n + (c.toNat - 48)) : Nat) : Int)) ∧ w = w' := by
  unfold mostN at *
  by_cases hc : (4611686018427387903 - ((c.toNat : Int) - 48)) / 10 < (n : Int)
  · go_enter Tryz.func88, Tryz.ntmps88
    go_wp2
    go_ret
    exact ⟨ret_i (by omega), rfl⟩
  · go_enter Tryz.func88, Tryz.ntmps88
    go_wp2
    go_ret
    exact ⟨ret_i (by omega), rfl⟩
theorem ret_s2 {a b c d : ByteArray} (h1 : a = b) (h2 : c = d) : Ending.returned (.tuple #[.string a, .string c]) = .returned (.tuple #[.string b, .string d]) := by rw [h1, h2]
theorem ext0 (s : ByteArray) (k : Nat) : (s.extract 0 k).data.toList = s.data.toList.take k := by
  simp [ByteArray.data_extract]
theorem extk (s : ByteArray) (k : Nat) : (s.extract k s.size).data.toList = s.data.toList.drop k := by
  have e2 : (s.data.toList.drop k).take (s.size - k) = s.data.toList.drop k := List.take_of_length_le (by simp)
  simp [ByteArray.data_extract, e2]
theorem ba_of (s : ByteArray) (l : List UInt8) (h : s.data.toList = l) : s = ⟨l.toArray⟩ := WideShapes.bytes_inj (by simpa using h)
theorem at_list (s : ByteArray) (j : Nat) (hj : j < s.size) : s.data.toList[j]? = some s[j] := by
  rw [List.getElem?_eq_getElem (by simpa using hj)]; rfl
theorem cut_eq (s : ByteArray) (k : Nat) (hall : ∀ j (hj : j < s.size), j < k → isD s[j] = true) (hst : ∀ h : k < s.size, isD s[k] = false) :
    s.extract 0 k = ⟨(s.data.toList.takeWhile isD).toArray⟩ ∧ s.extract k s.size = ⟨(s.data.toList.dropWhile isD).toArray⟩ := by
  have e : s.data.toList = s.data.toList.take k ++ s.data.toList.drop k := (List.take_append_drop _ _).symm
  have hx : ∀ c ∈ s.data.toList.take k, isD c = true := by
    intro c hc
    obtain ⟨j, hj, hjc⟩ := List.mem_iff_getElem.1 hc
    have hj2 : j < k ∧ j < s.data.toList.length := by rw [List.length_take] at hj; omega
    have hjs : j < s.size := by simpa using hj2.2
    have := hall j hjs hj2.1
    have h3 := at_list s j hjs
    rw [List.getElem_take] at hjc
    rw [List.getElem?_eq_getElem hj2.2, hjc] at h3
    rw [Option.some.inj h3]; exact this
  have hy : ∀ c, (s.data.toList.drop k).head? = some c → isD c = false := by
    intro c hc
    rw [List.head?_drop] at hc
    by_cases hks : k < s.size
    · rw [at_list s k hks] at hc
      rw [← Option.some.inj hc]; exact hst hks
    · rw [List.getElem?_eq_none (by simp; omega)] at hc; cases hc
  constructor
  · refine ba_of _ _ ?_
    rw [ext0 s k]; conv => rhs; rw [e]
    rw [takeWhile_all hx hy]
  · refine ba_of _ _ ?_
    rw [extk]; conv => rhs; rw [e]
    rw [dropWhile_all hx hy]
set_option maxHeartbeats 1000000 in
theorem cut_digits (s : ByteArray) (w : World) (hs : s.size ≤ 4000000000) :
    Calls Tryz.prog 60 #[.string s] w fun e w' => e = .returned (.tuple #[.string ⟨(s.data.toList.takeWhile isD).toArray⟩, .string ⟨(s.data.toList.dropWhile isD).toArray⟩]) ∧ Dr w w' := by
  go_enter Tryz.func60, Tryz.ntmps60
  go_wp2
  go_loop [4] (fun i => ∃ k : Nat, k ≤ s.size ∧ i = .int .i64 k ∧ Hid (∀ j (hj : j < s.size), j < k → isD s[j] = true)) (fun i => s.size - (intOf i).toNat)
  case atStart => exact ⟨0, Nat.zero_le _, rfl, Lib.hid fun j _ h => absurd h (Nat.not_lt_zero j)⟩
  case round =>
    obtain ⟨k, hk, rfl, hall⟩ := hrel
    by_cases hlt : k < s.size
    · by_cases h1 : 48 ≤ (s[k].toNat : Int)
      · by_cases h2 : (s[k].toNat : Int) ≤ 57
        · have HA : Hid (∀ j (hj : j < s.size), j < k + 1 → isD s[j] = true) := Lib.hid fun j hj hjk => by
            rcases Nat.lt_or_ge j k with h | h
            · exact hall.out j hj h
            · obtain rfl : j = k := by omega
              unfold isD; exact decide_eq_true (by omega)
          clear hall
          go_wp2
          go_round
          case rel => exact ⟨k + 1, by omega, by go_num, HA⟩
          case measure => simp [intOf]; omega
        · have HE := Lib.hid (cut_eq s k hall.out fun h => by unfold isD; exact decide_eq_false (by omega))
          go_wp2
          go_quiet (fail)
          go_wp2
          go_ret2
          exact ⟨ret_s2 HE.out.1 HE.out.2, _, rfl⟩
      · have HE := Lib.hid (cut_eq s k hall.out fun h => by unfold isD; exact decide_eq_false (by omega))
        go_wp2
        go_quiet (fail)
        go_wp2
        go_ret2
        exact ⟨ret_s2 HE.out.1 HE.out.2, _, rfl⟩
    · have HE := Lib.hid (cut_eq s k hall.out fun h => absurd h hlt)
      go_wp2
      go_quiet (fail)
      go_wp2
      go_ret2
      exact ⟨ret_s2 HE.out.1 HE.out.2, _, rfl⟩

theorem sat_step (v d : Nat) : min mostN (10 * min mostN v + d) = min mostN (10 * v + d) := by unfold mostN; omega
theorem pad6_at (B : List UInt8) (k : Nat) (h : k < 6) : (pad6 B)[k]? = some (if h : k < B.length then B[k] else 48) := by
  unfold pad6
  rw [List.getElem?_take_of_lt h]
  by_cases hb : k < B.length
  · rw [List.getElem?_append_left hb, dif_pos hb, List.getElem?_eq_getElem hb]
  · rw [List.getElem?_append_right (by omega), dif_neg hb]
    have hz : ∀ j, j < 6 → zer6[j]? = some 48 := by decide
    exact hz _ (by omega)
theorem take_val (l : List UInt8) (k : Nat) (c : UInt8) (h : l[k]? = some c) (n : Nat) : valF n (l.take (k + 1)) = 10 * valF n (l.take k) + (c.toNat - 48) := by
  rw [List.take_add_one, h]; exact valF_snoc _ _ _
set_option maxHeartbeats 2000000 in
theorem mill_any (a b : ByteArray) (w : World) (ha : a.size ≤ 4000000000) (hb : b.size ≤ 4000000000) (hA : ∀ c ∈ a.data.toList, isD c = true) (hB : ∀ c ∈ b.data.toList, isD c = true) :
    Calls Tryz.prog 62 #[.string a, .string b] w fun e w' => e = .returned (.int .u64 ((min mostN (valD (a.data.toList ++ pad6 b.data.toList)) : Nat) : Int)) ∧ w = w' := by
  have hd : ∀ (s : ByteArray) (hs : ∀ c ∈ s.data.toList, isD c = true) (j : Nat) (hj : j < s.size), 48 ≤ s[j].toNat ∧ s[j].toNat ≤ 57 := fun s hs j hj => by
    have := hs s[j] (List.mem_of_getElem? (at_list s j hj))
    unfold isD at this; exact of_decide_eq_true this
  have HA := Lib.hid (hd a hA)
  have HB := Lib.hid (hd b hB)
  clear hd hA hB
  have hm0 : (0 : Int) ≤ ((mostN : Nat) : Int) := by unfold mostN; omega
  go_enter Tryz.func62, Tryz.ntmps62
  go_wp2
  go_loop [5, 10] (fun n i => ∃ k u : Nat, k ≤ a.size ∧ i = .int .i64 k ∧ n = .int .u64 u ∧ Hid (u = min mostN (valD (a.data.toList.take k)))) (fun _ i => a.size - (intOf i).toNat)
  case atStart => exact ⟨0, 0, Nat.zero_le _, rfl, rfl, Lib.hid (by simp [valD, valF])⟩
  case round =>
    obtain ⟨k, u, hk, rfl, rfl, HU⟩ := hrel
    by_cases hlt : k < a.size
    · have HG := Lib.hid (fun W => grow_any u a[k] W (by rw [HU.out]; exact Nat.min_le_left _ _) (HA.out k hlt).1 (HA.out k hlt).2)
      have HN : Hid (min mostN (10 * u + (a[k].toNat - 48)) = min mostN (valD (a.data.toList.take (k + 1)))) := by
        have e := take_val a.data.toList k a[k] (at_list a k hlt) 0
        rw [HU.out, sat_step]
        exact Lib.hid (by rw [show valD (a.data.toList.take (k + 1)) = _ from e]; rfl)
      obtain ⟨u', hu'⟩ : ∃ z, min mostN (10 * u + (a[k].toNat - 48)) = z := ⟨_, rfl⟩
      rw [hu'] at HG HN
      clear HU hu'
      go_wp2_with (go_at_call 88; (with_reducible refine (HG.out _).mono ?_); rintro e w' ⟨rfl, rfl⟩)
      go_round
      case rel => exact ⟨k + 1, u', by omega, by go_num, rfl, HN⟩
      case measure => simp [intOf]; omega
    · have HV : Hid (u = min mostN (valD a.data.toList)) := by
        have h := HU.out; rw [List.take_of_length_le (by simp; omega)] at h; exact Lib.hid h
      clear HU
      go_wp2
      go_loop [5, 19] (fun n i => ∃ k u : Nat, k ≤ 6 ∧ i = .int .i64 k ∧ n = .int .u64 u ∧ Hid (u = min mostN (valF (valD a.data.toList) ((pad6 b.data.toList).take k)))) (fun _ i => 6 - (intOf i).toNat)
      case atStart => exact ⟨0, u, Nat.zero_le _, rfl, rfl, Lib.hid (by rw [HV.out]; rfl)⟩
      case round =>
        obtain ⟨m, v, hm, rfl, rfl, HU⟩ := hrel
        by_cases hlt2 : m < 6
        · by_cases hlb : m < b.size
          · have HG := Lib.hid (fun W => grow_any v b[m] W (by rw [HU.out]; exact Nat.min_le_left _ _) (HB.out m hlb).1 (HB.out m hlb).2)
            have HN : Hid (min mostN (10 * v + (b[m].toNat - 48)) = min mostN (valF (valD a.data.toList) ((pad6 b.data.toList).take (m + 1)))) := by
              have e := take_val (pad6 b.data.toList) m b[m] (by rw [pad6_at _ _ hlt2, dif_pos (by simpa using hlb)]; rfl) (valD a.data.toList)
              rw [HU.out, sat_step]
              exact Lib.hid (by rw [e])
            obtain ⟨v', hv'⟩ : ∃ z, min mostN (10 * v + (b[m].toNat - 48)) = z := ⟨_, rfl⟩
            rw [hv'] at HG HN
            clear HU hv'
            go_wp2_with (go_at_call 88; (with_reducible refine (HG.out _).mono ?_); rintro e w' ⟨rfl, rfl⟩)
            go_round
            case rel => exact ⟨m + 1, v', by omega, by go_num, rfl, HN⟩
            case measure => simp [intOf]; omega
          · have HG : Hid (∀ W, Calls Tryz.prog 88 #[.int .u64 v, .int .u8 48] W fun e w' => e = .returned (.int .u64 ((min mostN (10 * v + ((48 : UInt8).toNat - 48)) : Nat) : Int)) ∧ W = w') := Lib.hid (fun W => grow_any v 48 W (by rw [HU.out]; exact Nat.min_le_left _ _) (by decide) (by decide))
            have HN : Hid (min mostN (10 * v + ((48 : UInt8).toNat - 48)) = min mostN (valF (valD a.data.toList) ((pad6 b.data.toList).take (m + 1)))) := by
              have e := take_val (pad6 b.data.toList) m 48 (by rw [pad6_at _ _ hlt2, dif_neg (by simpa using hlb)]) (valD a.data.toList)
              rw [HU.out, sat_step]
              exact Lib.hid (by rw [e])
            obtain ⟨v', hv'⟩ : ∃ z, min mostN (10 * v + ((48 : UInt8).toNat - 48)) = z := ⟨_, rfl⟩
            rw [hv'] at HG HN
            clear HU hv'
            go_wp2_with (go_at_call 88; (with_reducible refine (HG.out _).mono ?_); rintro e w' ⟨rfl, rfl⟩)
            go_round
            case rel => exact ⟨m + 1, v', by omega, by go_num, rfl, HN⟩
            case measure => simp [intOf]; omega
        · go_wp2
          go_ret
          refine ⟨ret_i ?_, rfl⟩
          have h := HU.out
          rw [h, List.take_of_length_le (by unfold pad6; simp; omega)]
          unfold valD; rw [valF_append]
end Go.Proofs.YtipcanbeegladaaGreatDoor
