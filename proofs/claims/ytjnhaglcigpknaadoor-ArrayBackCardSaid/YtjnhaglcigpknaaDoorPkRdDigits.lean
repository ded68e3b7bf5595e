/-
  CONTRACT of the Reader's digits: what it reads, where it stands behind it, which error it bears.
-/
import Derived.Test.YtjnhaglcigpknaaDoorPkRd
import Derived.Deep.LoopGhost
namespace Go.Proofs.YtjnhaglcigpknaaDoor
open Go.RowKit

def digB (c : Nat) : Bool := decide (48 ≤ c ∧ c ≤ 57)
set_option maxHeartbeats 400000 in
theorem isDigit_any (c : Nat) (w : World) (_hc : c < 256) :
    Calls Tryd.prog 80 #[.int .u8 c] w fun e w' => e = .returned (.bool (digB c)) ∧ w' = w := by
  by_cases h1 : 48 ≤ c
  · have e : digB c = decide ((c : Int) ≤ 57) := by unfold digB; rw [Bool.eq_iff_iff]; simp; omega
    rw [e]
    go_enter Tryd.func80, Tryd.ntmps80
    go_wp2
    go_ret
    exact ⟨rfl, rfl⟩
  · have e : digB c = false := by simp [digB]; omega
    rw [e]
    go_enter Tryd.func80, Tryd.ntmps80
    go_wp2
    go_ret
    exact ⟨rfl, rfl⟩

/-- Does a digit stand at i? -/
def dgB (s : ByteArray) (i : Nat) : Bool := if h : i < s.size then digB s[i].toNat else false
def dgV (s : ByteArray) (i : Nat) : Nat := if h : i < s.size then s[i].toNat - 48 else 0
/-- What digits does from i on, n being the number so far: the place, the error, the answer. -/
def digP (s : ByteArray) (first most : Nat) : Nat → Nat → Nat → Nat × Nat × Nat
  | 0, i, _ => (i, 3, 0)
  | f + 1, i, n =>
    if dgB s i = true then
      if i - first = 19 ∨ (i - first = 1 ∧ n = 0) then (i, 3, 0) else digP s first most f (i + 1) (n * 10 + dgV s i)
    else if i = first then (i, refE s i, 0) else if n > most then (i, 3, 0) else (i, 0, n)
def dig (s : ByteArray) (i k most : Nat) : Nat × Nat × Nat := if k ≠ 0 then (i, k, 0) else digP s i most (s.size - i + 1) i 0

theorem dgB_lt {s : ByteArray} {i : Nat} (h : dgB s i = true) : i < s.size := by
  unfold dgB at h
  by_cases hq : i < s.size
  · exact hq
  · rw [dif_neg hq] at h; cases h

set_option maxHeartbeats 2000000 in
theorem digits_any (b : Nat) (s : ByteArray) (i j k most : Nat) (w : World) (h : Rd w b s i j k) (hi : i ≤ s.size) (hs1 : s.size ≤ maxLen) (_hm : most ≤ 9223372036854775808) :
    Calls Tryd.prog 65 #[.pointer (some ⟨b, 0, none⟩), .int .u64 most] w fun e w' => e = .returned (.int .u64 (dig s i k most).2.2) ∧ RdPost b s (dig s i k most).1 j (dig s i k most).2.1 w w' := by
  have h1 := h
  obtain ⟨hs, ha, ho, he, f1, f2, f3⟩ := h
  unfold maxLen at hs1
  by_cases hk : k = 0
  · subst hk
    have e0 : dig s i 0 most = digP s i most (s.size - i + 1) i 0 := by simp [dig]
    rw [e0]
    clear e0
    obtain ⟨R, hR⟩ : ∃ R, R = digP s i most (s.size - i + 1) i 0 := ⟨_, rfl⟩
    rw [← hR]
    have HR := Lib.hid hR
    clear hR
    go_enter Tryd.func65, Tryd.ntmps65
    go_wp2_with fail
    go_quiet (fail)
    go_wp2_with fail
    have hb : Only b w (w.drewN nq) := (Only.refl _ _).drewN
    have hr := h1.drewN (n := nq)
    generalize w.drewN nq = w0 at *
    clear hs ha ho he f1 f2 f3 h1
    go_loopg [5] (s.size - i) (fun g nv wr => ∃ a n : Nat, g = s.size - a ∧ i ≤ a ∧ a ≤ s.size ∧ nv = .int .u64 n ∧ a - i ≤ 19 ∧ n < 10 ^ (a - i) ∧ Rd wr b s a j 0 ∧ Only b w wr ∧ Hid (R = digP s i most (s.size - a + 1) a n))
    case atStart => exact ⟨i, 0, rfl, Nat.le_refl _, hi, rfl, by omega, by simp, hr, hb, HR⟩
    case round =>
      obtain ⟨a, n, hg, hia, has, rfl, hc19, hn, hrd, honly, HQ⟩ := hrel
      have HG := Lib.hid hg
      clear hg hr hb HR
      have HN := Lib.hid hn
      clear hn
      have hrd1 := hrd
      obtain ⟨hs, ha, ho, he, f1, f2, f3⟩ := hrd
      by_cases hd : dgB s a = true
      · have hlt := dgB_lt hd
        have hcb := s[a].toNat_lt
        have hdig : digB s[a].toNat = true := by unfold dgB at hd; rwa [dif_pos hlt] at hd
        have hv : Hid (dgV s a = s[a].toNat - 48) := Lib.hid (by unfold dgV; rw [dif_pos hlt])
        have hrange : 48 ≤ s[a].toNat ∧ s[a].toNat ≤ 57 := by simpa [digB] using hdig
        obtain ⟨hr1, hr2⟩ := hrange
        have hlt2 : (a : Int) < (s.size : Int) := by omega
        have HX : Hid (R = if a - i = 19 ∨ (a - i = 1 ∧ n = 0) then (a, 3, 0) else digP s i most (s.size - a) (a + 1) (n * 10 + dgV s a)) := Lib.hid (by rw [HQ.out, digP, if_pos hd])
        clear HQ hd
        by_cases hbad : a - i = 19 ∨ (a - i = 1 ∧ n = 0)
        · have HB := Lib.hid (HX.out.trans (if_pos hbad))
          go_wp2_with fail
          go_quiet ((go_at_call 80; exact Calls.quiet_of_same (isDigit_any _ _ hcb)))
          go_wp2_with fail
          all_goals
            go_ret
            exact ⟨by rw [HB.out]; rfl, by rw [HB.out]; exact ⟨hrd1.drewN.setE 3, honly.drewN.setCell 3 _⟩⟩
        · have HB := Lib.hid (HX.out.trans (if_neg hbad))
          have hn18 : n < 1000000000000000000 := Nat.lt_of_lt_of_le HN.out (by rw [show (1000000000000000000 : Nat) = 10 ^ 18 from rfl]; exact Nat.pow_le_pow_right (by omega) (by omega))
          have hnext : n * 10 + (s[a].toNat - 48) < 10 ^ (a + 1 - i) := by
            rw [show a + 1 - i = (a - i) + 1 from by omega, Nat.pow_succ]
            have := HN.out
            omega
          have HNX := Lib.hid hnext
          clear hnext
          have x1 := IntWalk.u64_in ((n : Int) * 10) (by omega)
          go_wp2_with fail
          go_quiet ((go_at_call 80; exact Calls.quiet_of_same (isDigit_any _ _ hcb)))
          go_wp2_with fail
          all_goals
            go_quiet (fail)
            go_wp2_with fail
            go_roundg (s.size - (a + 1))
            case measure => rw [HG.out]; omega
            case rel => exact ⟨a + 1, n * 10 + (s[a].toNat - 48), rfl, by omega, by omega, by go_num, by omega, HNX.out, hrd1.drewN.setA (a + 1), honly.drewN.setCell 1 _, Lib.hid (by rw [HB.out, hv.out, show s.size - (a + 1) + 1 = s.size - a from by omega])⟩
      · have hdf : dgB s a = false := by simpa using hd
        have HX : Hid (R = if a = i then (a, refE s a, 0) else if n > most then (a, 3, 0) else (a, 0, n)) := Lib.hid (by rw [HQ.out, digP, if_neg hd])
        clear HQ hd
        by_cases hlt : a < s.size
        · have hcb := s[a].toNat_lt
          have hdig : digB s[a].toNat = false := by unfold dgB at hdf; rwa [dif_pos hlt] at hdf
          have hlt2 : (a : Int) < (s.size : Int) := by omega
          by_cases hai : a = i
          · have HB := Lib.hid (HX.out.trans (if_pos hai))
            have HAI := Lib.hid hai
            have q1 : ((a : Int) == (i : Int)) = true := by rw [beq_iff_eq]; omega
            clear hai
            go_wp2_with fail
            go_quiet ((go_at_call 80; exact Calls.quiet_of_same (isDigit_any _ _ hcb)))
            go_wp2_with fail
            refine (refuse_any b s a j 0 _ hrd1.drewN).mono ?_
            rintro e w2 ⟨rfl, hr2, ho2⟩
            go_wp2_with fail
            go_ret
            exact ⟨by rw [HB.out]; rfl, by rw [HB.out]; exact ⟨hr2, honly.drewN.trans ho2⟩⟩
          · have HA := Lib.hid (HX.out.trans (if_neg hai))
            have q1 : ((a : Int) == (i : Int)) = false := by rw [Bool.eq_false_iff]; simp; omega
            by_cases hmn : n > most
            · have HB := Lib.hid (HA.out.trans (if_pos hmn))
              go_wp2_with fail
              go_quiet ((go_at_call 80; exact Calls.quiet_of_same (isDigit_any _ _ hcb)))
              go_wp2_with fail
              go_ret
              exact ⟨by rw [HB.out]; rfl, by rw [HB.out]; exact ⟨hrd1.drewN.setE 3, honly.drewN.setCell 3 _⟩⟩
            · have HB := Lib.hid (HA.out.trans (if_neg hmn))
              go_wp2_with fail
              go_quiet ((go_at_call 80; exact Calls.quiet_of_same (isDigit_any _ _ hcb)))
              go_wp2_with fail
              go_ret
              exact ⟨by rw [HB.out]; rfl, by rw [HB.out]; exact ⟨hrd1.drewN, honly.drewN⟩⟩
        · obtain rfl : a = s.size := by omega
          have hlt3 : decide ((s.size : Int) < (s.size : Int)) = false := by simp
          by_cases hai : s.size = i
          · have HB := Lib.hid (HX.out.trans (if_pos hai))
            have HAI := Lib.hid hai
            have q1 : ((s.size : Int) == (i : Int)) = true := by rw [beq_iff_eq]; omega
            clear hai
            go_wp2_with fail
            go_quiet ((go_at_call 80; exact Calls.quiet_of_same (isDigit_any _ _ (by omega))))
            go_wp2_with fail
            refine (refuse_any b s s.size j 0 _ hrd1.drewN).mono ?_
            rintro e w2 ⟨rfl, hr2, ho2⟩
            go_wp2_with fail
            go_ret
            exact ⟨by rw [HB.out]; rfl, by rw [HB.out]; exact ⟨hr2, honly.drewN.trans ho2⟩⟩
          · have HA := Lib.hid (HX.out.trans (if_neg hai))
            have q1 : ((s.size : Int) == (i : Int)) = false := by rw [Bool.eq_false_iff]; simp; omega
            by_cases hmn : n > most
            · have HB := Lib.hid (HA.out.trans (if_pos hmn))
              go_wp2_with fail
              go_quiet ((go_at_call 80; exact Calls.quiet_of_same (isDigit_any _ _ (by omega))))
              go_wp2_with fail
              go_ret
              exact ⟨by rw [HB.out]; rfl, by rw [HB.out]; exact ⟨hrd1.drewN.setE 3, honly.drewN.setCell 3 _⟩⟩
            · have HB := Lib.hid (HA.out.trans (if_neg hmn))
              go_wp2_with fail
              go_quiet ((go_at_call 80; exact Calls.quiet_of_same (isDigit_any _ _ (by omega))))
              go_wp2_with fail
              go_ret
              exact ⟨by rw [HB.out]; rfl, by rw [HB.out]; exact ⟨hrd1.drewN, honly.drewN⟩⟩
  · have e1 : dig s i k most = (i, k, 0) := by simp [dig, hk]
    rw [e1]
    have hk2 : ((k : Int) != 0) = true := by rw [bne_iff_ne]; omega
    go_enter Tryd.func65, Tryd.ntmps65
    go_wp2_with fail
    go_ret
    exact ⟨rfl, h1, Only.refl _ _⟩
end Go.Proofs.YtjnhaglcigpknaaDoor
