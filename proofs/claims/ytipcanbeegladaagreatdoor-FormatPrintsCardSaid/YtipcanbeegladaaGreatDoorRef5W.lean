/-
  CONTRACTS of the document's own answers for layer 5 (scriberef05): Size, blank, strip, Signed: what each hands back; nothing that was there is written.
-/
import Derived.Test.YtipcanbeegladaaGreatDoorNumM3
import Derived.Test.YtipcanbeegladaaGreatDoorNumW3
import Derived.Test.YtipcanbeegladaaGreatDoorDig
namespace Go.Proofs.YtipcanbeegladaaGreatDoor
open Go.RowKit

theorem rsize_any (a : Int) (w : World) (h1 : -9223372036854775808 ≤ a) (h2 : a ≤ 9223372036854775807) :
    Calls Tryz.prog 36 #[.int .i64 a] w fun e w' => e = .returned (.int .u64 (a.natAbs : Int)) ∧ w = w' := by
  by_cases hn : a < 0
  · have e0 : IntKind.i64.wrap (a + 1) = a + 1 := IntWalk.i64_in _ (by omega)
    have e1 : IntKind.u64.wrap (-(a + 1)) = -(a + 1) := by rw [IntKind.wrap_u64]; omega
    go_enter Tryz.func36, Tryz.ntmps36
    go_wp2
    go_ret
    exact ⟨ret_i (by omega), rfl⟩
  · have e1 : IntKind.u64.wrap a = (a.natAbs : Int) := by rw [IntKind.wrap_u64]; omega
    go_enter Tryz.func36, Tryz.ntmps36
    go_wp2
    go_ret
    exact ⟨rfl, rfl⟩
theorem rblank_any (c : UInt8) (w : World) :
    Calls Tryz.prog 83 #[.int .u8 (c.toNat : Int)] w fun e w' => e = .returned (.bool (blk c)) ∧ w = w' := by
  have hb : blk c = (decide (c.toNat = 32) || decide (c.toNat = 9) || decide (c.toNat = 10)) := by
    unfold blk
    rw [Bool.eq_iff_iff]
    simp [← UInt8.toNat_inj]
    omega
  rw [hb]
  have hc : c.toNat < 256 := c.toNat_lt
  by_cases h1 : (c.toNat : Int) = 32
  · go_enter Tryz.func83, Tryz.ntmps83
    go_wp2
    go_ret
    exact ⟨by simp; omega, rfl⟩
  · by_cases h2 : (c.toNat : Int) = 9
    · go_enter Tryz.func83, Tryz.ntmps83
      go_wp2
      go_ret
      exact ⟨by simp; omega, rfl⟩
    · by_cases h3 : (c.toNat : Int) = 10
      · go_enter Tryz.func83, Tryz.ntmps83
        go_wp2
        go_ret
        exact ⟨by simp; omega, rfl⟩
      · have e : (decide (c.toNat = 32) || decide (c.toNat = 9) || decide (c.toNat = 10)) = false := by simp; omega
        rw [e]
        have b1 : ((c.toNat : Int) == 32) = false := by simpa using h1
        have b2 : ((c.toNat : Int) == 9) = false := by simpa using h2
        have b3 : ((c.toNat : Int) == 10) = false := by simpa using h3
        go_enter Tryz.func83, Tryz.ntmps83
        go_wp2
        go_ret
        exact ⟨rfl, rfl⟩
/-- What stands behind the first k bytes, all of which meet p, where the next one doesn't. -/
theorem drop_to (p : UInt8 → Bool) (s : ByteArray) (k : Nat) (hall : ∀ j (hj : j < s.size), j < k → p s[j] = true) (hst : ∀ h : k < s.size, p s[k] = false) :
    s.extract k s.size = ⟨(s.data.toList.dropWhile p).toArray⟩ := by
  have e : s.data.toList = s.data.toList.take k ++ s.data.toList.drop k := (List.take_append_drop _ _).symm
  have hx : ∀ c ∈ s.data.toList.take k, p c = true := by
    intro c hc
    obtain ⟨j, hj, hjc⟩ := List.mem_iff_getElem.1 hc
    have hj2 : j < k ∧ j < s.data.toList.length := by rw [List.length_take] at hj; omega
    have hjs : j < s.size := by simpa using hj2.2
    have := hall j hjs hj2.1
    have h3 := at_list s j hjs
    rw [List.getElem_take] at hjc
    rw [List.getElem?_eq_getElem hj2.2, hjc] at h3
    rw [Option.some.inj h3]; exact this
  have hy : ∀ c, (s.data.toList.drop k).head? = some c → p c = false := by
    intro c hc
    rw [List.head?_drop] at hc
    by_cases hks : k < s.size
    · rw [at_list s k hks] at hc
      rw [← Option.some.inj hc]; exact hst hks
    · rw [List.getElem?_eq_none (by simp; omega)] at hc; cases hc
  refine ba_of _ _ ?_
  rw [extk]; conv => rhs; rw [e]
  rw [dropWhile_all hx hy]
set_option maxHeartbeats 1000000 in
theorem strip_any (s : ByteArray) (w : World) (hs : s.size ≤ 4000000000) :
    Calls Tryz.prog 85 #[.string s] w fun e w' => e = .returned (.string ⟨(s.data.toList.dropWhile (· == 48)).toArray⟩) ∧ w = w' := by
  go_enter Tryz.func85, Tryz.ntmps85
  go_wp2
  go_loop [3] (fun i => ∃ k : Nat, k ≤ s.size ∧ i = .int .i64 k ∧ Hid (∀ j (hj : j < s.size), j < k → (s[j] == 48) = true)) (fun i => s.size - (intOf i).toNat)
  case atStart => exact ⟨0, Nat.zero_le _, rfl, Lib.hid fun j _ h => absurd h (Nat.not_lt_zero j)⟩
  case round =>
    obtain ⟨k, hk, rfl, hall⟩ := hrel
    by_cases hlt : k < s.size
    · by_cases h1 : (s[k].toNat : Int) = 48
      · have HA : Hid (∀ j (hj : j < s.size), j < k + 1 → (s[j] == 48) = true) := Lib.hid fun j hj hjk => by
          rcases Nat.lt_or_ge j k with h | h
          · exact hall.out j hj h
          · obtain rfl : j = k := by omega
            rw [beq_iff_eq]; apply UInt8.toNat_inj.1; show s[j].toNat = 48; omega
        clear hall
        go_wp2
        go_round
        case rel => exact ⟨k + 1, by omega, by go_num, HA⟩
        case measure => simp [intOf]; omega
      · have HE := Lib.hid (drop_to (· == 48) s k hall.out fun h => by
          show (s[k] == 48) = false
          rw [beq_eq_false_iff_ne]; intro h; rw [h] at h1; exact h1 rfl)
        have b1 : ((s[k].toNat : Int) == 48) = false := by simpa using h1
        go_wp2
        go_ret
        exact ⟨ret_s HE.out, rfl⟩
    · have HE := Lib.hid (drop_to (· == 48) s k hall.out fun h => absurd h hlt)
      go_wp2
      go_ret
      exact ⟨ret_s HE.out, rfl⟩
theorem strip_val (l : List UInt8) : valD (l.dropWhile (· == 48)) = valD l := by
  induction l with
  | nil => rfl
  | cons c l ih =>
    rw [List.dropWhile_cons]
    split
    · rename_i h
      obtain rfl : c = 48 := by simpa using h
      rw [ih]; rfl
    · rfl
theorem val_take (l : List UInt8) (k : Nat) : valD (l.take k) ≤ valD l := by
  have e : valD l = valD (l.take k) * 10 ^ (l.drop k).length + valD (l.drop k) := by rw [← valD_append, List.take_append_drop]
  have h1 : 1 ≤ 10 ^ (l.drop k).length := Nat.pow_pos (by decide)
  have := Nat.mul_le_mul_left (valD (l.take k)) h1
  omega
set_option maxHeartbeats 2000000 in
theorem rsigned_any (b : Bool) (s : ByteArray) (w : World) (hs : s.size ≤ 4000000000) (hd : ∀ c ∈ s.data.toList, isD c = true) :
    Calls Tryz.prog 84 #[.bool b, .string s] w fun e w' => e = .returned (.int .i64 (sgnI b (min mostN (valD s.data.toList)))) ∧ w = w' := by
  have hdg : ∀ (j : Nat) (hj : j < s.size), 48 ≤ s[j].toNat ∧ s[j].toNat ≤ 57 := fun j hj => by
    have := hd s[j] (List.mem_of_getElem? (at_list s j hj))
    unfold isD at this; exact of_decide_eq_true this
  have hstep : ∀ (k : Nat) (hk : k < s.size), valD (s.data.toList.take (k + 1)) = 10 * valD (s.data.toList.take k) + (s[k].toNat - 48) := fun k hk => take_val s.data.toList k s[k] (at_list s k hk) 0
  have hmono := fun k => val_take s.data.toList k
  have HD := Lib.hid (And.intro hdg (And.intro hstep hmono))
  have hend : Hid (∀ n : Nat, (n = min mostN (valD s.data.toList)) → (sgnI b (min mostN (valD s.data.toList)) = if b then -(n : Int) else (n : Int))) := Lib.hid fun n hn => by rw [← hn]; rfl
  clear hd hdg hstep hmono
  go_enter Tryz.func84, Tryz.ntmps84
  go_wp2
  go_loop [5, 6] (fun nv i => ∃ k n : Nat, k ≤ s.size ∧ i = .int .i64 k ∧ nv = .int .u64 n ∧ n ≤ 4611686018427387903 ∧ Hid (n = valD (s.data.toList.take k))) (fun _ i => s.size - (intOf i).toNat)
  case atStart => exact ⟨0, 0, Nat.zero_le _, rfl, rfl, by omega, Lib.hid rfl⟩
  case round =>
    obtain ⟨k, n, hk, rfl, rfl, hn, hv⟩ := hrel
    have hni : (n : Int) ≤ 4611686018427387903 := by omega
    have hn0 : (0 : Int) ≤ (n : Int) := by omega
    clear hn
    by_cases hlt : k < s.size
    · have hc1 : 48 ≤ (s[k].toNat : Int) := by have := (HD.out.1 k hlt).1; omega
      have hc2 : (s[k].toNat : Int) ≤ 57 := by have := (HD.out.1 k hlt).2; omega
      have hst := HD.out.2.1 k hlt
      have hmo := HD.out.2.2 (k + 1)
      rw [← hv.out] at hst
      rw [hst] at hmo
      by_cases hbig : (461168601842738790 : Int) < (n : Int)
      · have HE : Hid ((4611686018427387903 : Nat) = min mostN (valD s.data.toList)) := Lib.hid (by unfold mostN; omega)
        clear hst hmo
        cases b
        all_goals
          go_wp2
          go_ret
          exact ⟨ret_i (by rw [hend.out _ HE.out]; rfl), rfl⟩
      · have hadd : 10 * (n : Int) + (s[k].toNat : Int) ≤ 4611686018427387957 := by omega
        by_cases hov : (4611686018427387903 : Int) < 10 * (n : Int) + (s[k].toNat : Int) - 48
        · have HE : Hid ((4611686018427387903 : Nat) = min mostN (valD s.data.toList)) := Lib.hid (by unfold mostN; omega)
          clear hst hmo
          cases b
          all_goals
            go_wp2
            go_ret
            exact ⟨ret_i (by rw [hend.out _ HE.out]; rfl), rfl⟩
        · obtain ⟨m, hm⟩ : ∃ m : Nat, 10 * n + (s[k].toNat - 48) = m := ⟨_, rfl⟩
          have hme : 10 * (n : Int) + (s[k].toNat : Int) - 48 = (m : Int) := by omega
          have HN : Hid (m = valD (s.data.toList.take (k + 1))) := Lib.hid (by rw [hst, hm])
          have hmb : m ≤ 4611686018427387903 := by omega
          have hmi : (m : Int) ≤ 4611686018427387903 := by omega
          have HMB := Lib.hid hmb
          clear hst hmo hm hov hmb
          go_wp2
          go_round
          case rel => exact ⟨k + 1, m, by omega, by go_num, rfl, HMB.out, HN⟩
          case measure => simp [intOf]; omega
    · have HE : Hid (n = min mostN (valD s.data.toList)) := Lib.hid (by
        have h := hv.out
        rw [List.take_of_length_le (by simp; omega)] at h
        unfold mostN; omega)
      cases b
      all_goals
        go_wp2
        go_ret
        exact ⟨ret_i (by rw [hend.out _ HE.out]; simp), rfl⟩
end Go.Proofs.YtipcanbeegladaaGreatDoor
