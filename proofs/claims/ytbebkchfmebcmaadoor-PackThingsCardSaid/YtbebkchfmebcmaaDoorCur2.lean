/-
  CONTRACTS of the reference's digits, ReadInt, ReadText, ReadClose (scriberef01).
-/
import Derived.Test.YtbebkchfmebcmaaDoorCurM
namespace Go.Proofs.YtbebkchfmebcmaaDoor
open Go.RowKit

set_option maxHeartbeats 2000000 in
theorem cdig_any (s : ByteArray) (i j k : Nat) (w : World) (hi : i ≤ s.size) (hz : s.size ≤ 100000) :
    Calls Tryd.prog 36 #[cv s i j k] w fun e w' => e = .returned (.tuple #[cv s (rd s i k).1 j (rd s i k).2.1, .int .u64 (rd s i k).2.2]) ∧ ∃ a b, w' = (w.alloc (.cells a 25)).alloc (.cells b 25) := by
  unfold cv
  by_cases hk : k = 0
  · subst hk
    have e0 : rd s i 0 = rdP s i (s.size - i + 1) i 0 := by simp [rd]
    rw [e0]
    clear e0
    obtain ⟨R, hR⟩ : ∃ R, R = rdP s i (s.size - i + 1) i 0 := ⟨_, rfl⟩
    rw [← hR]
    have HR := Lib.hid hR
    clear hR
    go_enter Tryd.func36, Tryd.ntmps36
    go_wp2_with fail
    go_loopg [4, 5] (s.size - i) (fun g nv kv wr => ∃ a n : Nat, g = s.size - a ∧ i ≤ a ∧ a ≤ s.size ∧ nv = .int .u64 n ∧ kv = .int .i64 ((a - i : Nat) : Int) ∧ a - i ≤ 19 ∧ n < 10 ^ (a - i) ∧
      wr = (w.alloc (.cells #[.string s, .int .i64 a, .int .i64 j, .int .i64 0] 25)).alloc (.cells #[.string ⟨#[]⟩, .int .i64 0, .int .i64 0, .int .i64 0] 25) ∧ Hid (R = rdP s i (s.size - a + 1) a n))
    case atStart => exact ⟨i, 0, rfl, Nat.le_refl _, hi, rfl, by go_num, by omega, by simp, by simp, HR⟩
    case round =>
      obtain ⟨a, n, hg, hia, has, rfl, rfl, hc19, hn, rfl, HQ⟩ := hrel
      have HG := Lib.hid hg
      have HN := Lib.hid hn
      clear hg hn HR
      by_cases hlt : a < s.size
      · have hl2 : decide ((s.size : Int) ≤ (a : Int)) = false := by simp; omega
        have hcb := s[a].toNat_lt
        by_cases hd : dgB s a = true
        · have hdig : digB s[a].toNat = true := by unfold dgB at hd; rwa [dif_pos hlt] at hd
          have hrange : 48 ≤ s[a].toNat ∧ s[a].toNat ≤ 57 := by simpa [digB] using hdig
          have hv : Hid (dgV s a = s[a].toNat - 48) := Lib.hid (by unfold dgV; rw [dif_pos hlt])
          obtain ⟨hr1, hr2⟩ := hrange
          have HX : Hid (R = if a - i = 19 ∨ (a - i = 1 ∧ n = 0) then (a, 3, 0) else rdP s i (s.size - a) (a + 1) (n * 10 + dgV s a)) := Lib.hid (by rw [HQ.out, rdP, if_pos hd])
          clear HQ hd hdig
          by_cases hbad : a - i = 19 ∨ (a - i = 1 ∧ n = 0)
          · have HB := Lib.hid (HX.out.trans (if_pos hbad))
            go_wp2_with fail
            all_goals
              refine bodyPost_ret (v := .tuple #[cv s a j 3, .int .u64 0]) ?_ rfl ⟨by rw [HB.out]; rfl, _, _, rfl⟩
              simp [results, Tryd.results36, go_sem, cv]
          · have HB := Lib.hid (HX.out.trans (if_neg hbad))
            have hn18 : n < 1000000000000000000 := Nat.lt_of_lt_of_le HN.out (by rw [show (1000000000000000000 : Nat) = 10 ^ 18 from rfl]; exact Nat.pow_le_pow_right (by omega) (by omega))
            have hnext : n * 10 + (s[a].toNat - 48) < 10 ^ (a + 1 - i) := by
              rw [show a + 1 - i = (a - i) + 1 from by omega, Nat.pow_succ]
              have := HN.out
              omega
            have HNX := Lib.hid hnext
            clear hnext
            go_wp2_with fail
            all_goals
              go_roundg (s.size - (a + 1))
              case measure => rw [HG.out]; omega
              case rel => exact ⟨a + 1, n * 10 + (s[a].toNat - 48), rfl, by omega, by omega, by go_num, by go_num, by omega, HNX.out, by simp, Lib.hid (by rw [HB.out, hv.out, show s.size - (a + 1) + 1 = s.size - a from by omega])⟩
        · have hdf : dgB s a = false := by simpa using hd
          have hdig : digB s[a].toNat = false := by unfold dgB at hdf; rwa [dif_pos hlt] at hdf
          have HX : Hid (R = if a = i then (a, 3, n) else (a, 0, n)) := Lib.hid (by rw [HQ.out, rdP, if_neg hd, if_neg (by omega)])
          clear HQ hd hdf
          have hrange : s[a].toNat < 48 ∨ 57 < s[a].toNat := by
            have : ¬ (48 ≤ s[a].toNat ∧ s[a].toNat ≤ 57) := by simpa [digB] using hdig
            omega
          clear hdig
          by_cases hai : a = i
          · have HB := Lib.hid (HX.out.trans (if_pos hai))
            have q0 : a - i = 0 := by omega
            clear hai
            go_wp2_with fail
            all_goals
              refine bodyPost_ret (v := .tuple #[cv s a j 3, .int .u64 n]) ?_ rfl ⟨by rw [HB.out]; rfl, _, _, rfl⟩
              simp [results, Tryd.results36, go_sem, cv]
          · have HB := Lib.hid (HX.out.trans (if_neg hai))
            have q0 : 0 < a - i := by omega
            clear hai
            go_wp2_with fail
            all_goals
              refine bodyPost_ret (v := .tuple #[cv s a j 0, .int .u64 n]) ?_ rfl ⟨by rw [HB.out]; rfl, _, _, rfl⟩
              simp [results, Tryd.results36, go_sem, cv]
      · obtain rfl : a = s.size := by omega
        have hdf : ¬ dgB s s.size = true := fun h => by have := dgB_lt h; omega
        have HX : Hid (R = (s.size, 2, 0)) := Lib.hid (by rw [HQ.out, rdP, if_neg hdf, if_pos (Nat.le_refl _)])
        clear HQ hdf
        have HB := Lib.hid HX.out
        go_wp2_with fail
        all_goals
          refine bodyPost_ret (v := .tuple #[cv s s.size j 2, .int .u64 0]) ?_ rfl ⟨by rw [HB.out]; rfl, _, _, rfl⟩
          simp [results, Tryd.results36, go_sem, cv]
  · have e0 : rd s i k = (i, k, 0) := by unfold rd; rw [if_pos hk]
    rw [e0]
    clear e0
    have k1 : ((k : Int) == 0) = false := by rw [beq_eq_false_iff_ne]; omega
    have k2 : decide ((k : Int) = 0) = false := decide_eq_false (by omega)
    have k3 : ((k : Int) != 0) = true := by rw [bne_iff_ne]; omega
    go_enter Tryd.func36, Tryd.ntmps36
    go_wp2_with fail
    refine bodyPost_ret (v := .tuple #[cv s i j k, .int .u64 0]) ?_ rfl ⟨rfl, _, _, rfl⟩
    simp [results, Tryd.results36, go_sem, cv]
end Go.Proofs.YtbebkchfmebcmaaDoor
