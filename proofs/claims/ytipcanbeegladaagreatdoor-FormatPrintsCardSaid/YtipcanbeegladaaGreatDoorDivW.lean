/-
  CONTRACT of math/bits.Div64, walked over the library's own text: where hi < y it hands back the quotient of hi * 2^64 + lo by y (and some remainder, of which nothing is said); nothing that was there is written.
-/
import Derived.Test.YtipcanbeegladaaGreatDoorShelf
import Derived.Test.YtipcanbeegladaaGreatDoorDivM
import Derived.Test.YtipcanbeegladaaGreatDoorRows
import Derived.WalkSpells
import Derived.WalkLawsBesides
import Derived.Lib.Hide
import Derived.Deep.QuietTactic
import Derived.BigQuiet
import Derived.IntWalk
import Derived.Laws.Bits64b
namespace Go.Proofs.YtipcanbeegladaaGreatDoor
open Go.RowKit

def DivPost (q : Nat) (w : World) (e : Ending) (w' : World) : Prop := (∃ r : Int, e = .returned (.tuple #[.int .u64 (q : Int), .int .u64 r])) ∧ ∃ n, w' = w.drewN n

theorem div64_low (lo y : Nat) (w : World) (hy : 0 < y) (hy2 : y < 18446744073709551616) (hlo : lo < 18446744073709551616) :
    Calls Tryz.prog 87 #[.int .u64 (0 : Nat), .int .u64 lo, .int .u64 y] w (DivPost (lo / y) w) := by
  have hy' : (0 : Int) < (y : Int) := by omega
  have hyn : ¬ ((y : Int) = 0) := by omega
  have hwr : IntKind.u64.wrap ((lo : Int) / (y : Int)) = ((lo / y : Nat) : Int) := by
    rw [← Int.natCast_ediv]
    exact Mul64.wrapN _ (Nat.lt_of_le_of_lt (Nat.div_le_self lo y) hlo)
  go_enter Tryz.func87, Tryz.ntmps87
  go_wp2
  go_quiet (fail)
  go_wp2
  go_ret2
  exact ⟨⟨_, rfl⟩, _, rfl⟩
theorem lz_any (y s : Nat) (w : World) (hy2 : y < 18446744073709551616) (hs : 64 - Lib.bitLen y = s) :
    Calls Tryz.prog 102 #[.int .u64 y] w fun e w' => e = .returned (.int .i64 (s : Int)) ∧ w' = w := by
  refine (Tryz.bits_LeadingZeros64 (y : Int) w (by omega) (by omega)).mono ?_
  rintro e w' ⟨rfl, rfl⟩
  refine ⟨?_, rfl⟩
  have := Any.bitLen_le64 (y : Int) (by omega) (by omega)
  rw [Int.toNat_natCast] at this ⊢
  rw [show (64 : Int) - (Lib.bitLen y : Int) = (s : Int) by omega]
theorem and32 (a : Nat) (ha : a ≤ 18446744073709551615) : bits .and .u64 (a : Int) 4294967295 = ((a % 4294967296 : Nat) : Int) := Mul64.maskN a (by omega)
theorem or_shift (hi lo s : Nat) (hs : s ≤ 63) (h : hi * 2 ^ s + lo / 2 ^ (64 - s) ≤ 18446744073709551615) (hlo : lo < 18446744073709551616) :
    bits .or .u64 (IntKind.u64.wrap ((hi : Int) * 2 ^ s)) ((lo : Int) / 2 ^ (64 - s)) = ((hi * 2 ^ s + lo / 2 ^ (64 - s) : Nat) : Int) := by
  have e1 : IntKind.u64.wrap ((hi : Int) * 2 ^ s) = ((hi * 2 ^ s : Nat) : Int) := by
    rw [show (hi : Int) * 2 ^ s = ((hi * 2 ^ s : Nat) : Int) by simp]; exact Mul64.wrapN _ (Nat.lt_of_le_of_lt (Nat.le_add_right _ _) (Nat.lt_succ_of_le h))
  have e2 : (lo : Int) / 2 ^ (64 - s) = ((lo / 2 ^ (64 - s) : Nat) : Int) := by simp
  rw [e1, e2, bits_or_u64_nat _ _ (Nat.lt_of_le_of_lt (Nat.le_add_right _ _) (Nat.lt_succ_of_le h)) (Nat.lt_of_le_of_lt (Nat.le_add_left _ _) (Nat.lt_succ_of_le h))]
  congr 1
  have hlt : lo / 2 ^ (64 - s) < 2 ^ s := by
    rw [Nat.div_lt_iff_lt_mul (Nat.two_pow_pos _), ← Nat.pow_add, show s + (64 - s) = 64 by omega]; exact hlo
  generalize lo / 2 ^ (64 - s) = x at *
  rw [Nat.mul_comm hi, Nat.two_pow_add_eq_or_of_lt hlt]
/-- The shifted number's three digits. -/
theorem div_digits (hi lo y s : Nat) (hs : s ≤ 63) (hhi : hi < y) (hlo : lo < 18446744073709551616) (_hV2 : y * 2 ^ s ≤ 18446744073709551615) :
    hi * 2 ^ s + lo / 2 ^ (64 - s) < y * 2 ^ s ∧ (hi * 18446744073709551616 + lo) * 2 ^ s = (hi * 2 ^ s + lo / 2 ^ (64 - s)) * 18446744073709551616 + lo * 2 ^ s % 18446744073709551616 := by
  have hlt : lo / 2 ^ (64 - s) < 2 ^ s := by
    rw [Nat.div_lt_iff_lt_mul (Nat.two_pow_pos _), ← Nat.pow_add, show s + (64 - s) = 64 by omega]; exact hlo
  have e64 : (2 : Nat) ^ s * 2 ^ (64 - s) = 18446744073709551616 := by rw [← Nat.pow_add, show s + (64 - s) = 64 by omega]
  have hdm := Nat.div_add_mod lo (2 ^ (64 - s))
  have hm := Nat.mod_lt lo (Nat.two_pow_pos (64 - s))
  constructor
  · have := Nat.mul_le_mul_right (2 ^ s) hhi
    rw [Nat.succ_mul] at this; omega
  · have e : lo * 2 ^ s = lo / 2 ^ (64 - s) * 18446744073709551616 + lo % 2 ^ (64 - s) * 2 ^ s := by
      conv => lhs; rw [← hdm]
      rw [Nat.add_mul, Nat.mul_comm (2 ^ (64 - s)), Nat.mul_assoc, Nat.mul_comm (2 ^ (64 - s)), e64]
    have hl : lo % 2 ^ (64 - s) * 2 ^ s < 18446744073709551616 := by
      have := Nat.mul_lt_mul_of_pos_right hm (Nat.two_pow_pos s)
      rw [Nat.mul_comm (2 ^ (64 - s)), e64] at this; exact this
    have e2 : lo * 2 ^ s % 18446744073709551616 = lo % 2 ^ (64 - s) * 2 ^ s := by rw [e]; omega
    rw [e2, Nat.add_mul, Nat.add_mul, e, Nat.mul_assoc, Nat.mul_comm 18446744073709551616, ← Nat.mul_assoc, Nat.add_assoc]
    trace_state
/-- What holds at a loop's head: the guess and what is left of it. -/
def DvRel (u v1 Q q r : Nat) : Prop := r + q * v1 = u ∧ Q ≤ q ∧ r < 4294967296 ∧ q ≤ 8589934592
set_option maxHeartbeats 2000000 in
set_option maxRecDepth 100000 in
theorem div64_walk (hi lo y s V v1 v0 u L l1 l0 Qa Ra Q1 u2 Qb Rb Q0 A Q : Nat) (w : World) (h0 : 0 < hi) (hhi : hi < y) (hy2 : y < 18446744073709551616) (hs : s ≤ 63) (hbl : 64 - Lib.bitLen y = s)
    (e1 : IntKind.u64.wrap ((y : Int) * 2 ^ s) = (V : Int)) (e2 : (V : Int) / 4294967296 = (v1 : Int)) (e3 : bits .and .u64 (V : Int) 4294967295 = (v0 : Int))
    (e4 : bits .or .u64 (IntKind.u64.wrap ((hi : Int) * 2 ^ s)) ((lo : Int) / 2 ^ (64 - s)) = (u : Int))
    (e5 : IntKind.u64.wrap ((lo : Int) * 2 ^ s) = (L : Int)) (e6 : (L : Int) / 4294967296 = (l1 : Int)) (e7 : bits .and .u64 (L : Int) 4294967295 = (l0 : Int))
    (e8 : IntKind.u64.wrap ((u : Int) / (v1 : Int)) = (Qa : Int)) (e9 : IntKind.u64.wrap ((u : Int) - IntKind.u64.wrap ((Qa : Int) * (v1 : Int))) = (Ra : Int))
    (e10 : IntKind.u64.wrap (IntKind.u64.wrap (IntKind.u64.wrap ((u : Int) * 4294967296) + (l1 : Int)) - IntKind.u64.wrap ((Q1 : Int) * (V : Int))) = (u2 : Int))
    (e13 : IntKind.u64.wrap ((Q1 : Int) * 4294967296) = (A : Int)) (e14 : IntKind.u64.wrap ((A : Int) + (Q0 : Int)) = (Q : Int))
    (e11 : IntKind.u64.wrap ((u2 : Int) / (v1 : Int)) = (Qb : Int)) (e12 : IntKind.u64.wrap ((u2 : Int) - IntKind.u64.wrap ((Qb : Int) * (v1 : Int))) = (Rb : Int))
    (hv1 : 0 < v1) (hv1b : v1 < 4294967296) (hv0 : v0 < 4294967296) (hl1 : l1 < 4294967296) (hl0 : l0 < 4294967296) (HQQ1 : Hid ((u * 4294967296 + l1) / (v1 * 4294967296 + v0) = Q1)) (HQQ0 : Hid ((u2 * 4294967296 + l0) / (v1 * 4294967296 + v0) = Q0))
    (HUu : Hid (u < v1 * 4294967296 + v0)) (HUu2 : Hid (u2 < v1 * 4294967296 + v0))
    (ha : DvRel u v1 Q1 Qa Ra) (hb0 : DvRel u2 v1 Q0 Qb Rb) :
    Calls Tryz.prog 87 #[.int .u64 hi, .int .u64 lo, .int .u64 y] w (DivPost Q w) := by
  have hyn2 : ((y : Int) == 0) = false := by simp; omega
  have hle : decide ((y : Int) ≤ (hi : Int)) = false := by simpa using hhi
  have hh0 : ((hi : Int) == 0) = false := by simp; omega
  have HBL := Lib.hid hbl
  have hs' : (s : Int) ≤ 63 := by omega
  have hv1i : (0 : Int) < (v1 : Int) := by omega
  have HV1 := Lib.hid (And.intro hv1 hv1b)
  have HV0 := Lib.hid hv0
  have HL1 := Lib.hid (And.intro hl1 hl0)
  have HY2 := Lib.hid hy2
  clear hbl hv1 hv1b hv0 hl1 hl0 hy2
  go_enter Tryz.func87, Tryz.ntmps87
  go_wp2_with (go_at_call 102; refine (lz_any y s _ HY2.out HBL.out).mono ?_; rintro e w' ⟨rfl, rfl⟩)
  clear e1 e2 e3 e4 e5 e6 e7 e8 e9
  go_loop [15, 16] (fun qv rv => ∃ q r : Nat, qv = .int .u64 q ∧ rv = .int .u64 r ∧ DvRel u v1 Q1 q r) (fun qv _ => (intOf qv).toNat)
  case atStart => exact ⟨Qa, Ra, rfl, rfl, ha⟩
  case round =>
    obtain ⟨q, r, rfl, rfl, hr⟩ := hrel
    have ir : (r : Int) ≤ 4294967295 := by have := hr.2.2; omega
    have iq : (q : Int) ≤ 8589934592 := by have := hr.2.2; omega
    have iv1 : (v1 : Int) ≤ 4294967295 := by have := HV1.out; omega
    by_cases hq : 4294967296 ≤ q
    · have hq' : decide ((4294967296 : Int) ≤ (q : Int)) = true := by simp; omega
      have hq'' : decide (4294967296 ≤ q) = true := by simp; omega
      obtain ⟨q1, hq1⟩ : ∃ z, q = z + 1 := ⟨q - 1, by have := hq; omega⟩
      obtain ⟨r1, hr1⟩ : ∃ z, r + v1 = z := ⟨_, rfl⟩
      have d1 : IntKind.u64.wrap ((q : Int) - 1) = (q1 : Int) := by rw [show (q : Int) - 1 = (q1 : Int) by omega]; exact Mul64.wrapN _ (by omega)
      have d2 : IntKind.u64.wrap ((r : Int) + (v1 : Int)) = (r1 : Int) := by rw [Mul64.addN, hr1]; exact Mul64.wrapN _ (by omega)
      have HN : Hid (r1 + q1 * v1 = u ∧ Q1 ≤ q1 ∧ q1 ≤ 8589934592 ∧ q1 < q) := by
        have h1 := dv_step v1 q r u hr.1 (by omega)
        have h2 := dv_down u l1 v1 v0 q r HUu.out (by have := HL1.out; omega) hr.1 (.inl hq)
        rw [HQQ1.out] at h2
        have h3 := hr.2.2.2
        rw [hr1, show q - 1 = q1 by omega] at h1
        exact Lib.hid ⟨h1, by omega, by omega, by omega⟩
      clear hq hq1 hr1 ir iq iv1
      by_cases hb : 4294967296 ≤ r1
      · have hb' : decide ((4294967296 : Int) ≤ (r1 : Int)) = true := by simp; omega
        have hb'' : decide (4294967296 ≤ r1) = true := by simp; omega
        have HE : Hid (Q1 = q1) := by
          have := dv_break u l1 v1 v0 q1 r1 HUu.out HV0.out HN.out.1 (by rw [HQQ1.out]; exact HN.out.2.1) hb
          rw [HQQ1.out] at this; exact Lib.hid this
        clear hb
        obtain rfl : q1 = Q1 := HE.out.symm
        go_wp2
        clear hb' hb'' d1 d2 HE HN hr
        go_loop [16, 18] (fun rv qv => ∃ q2 r3 : Nat, qv = .int .u64 q2 ∧ rv = .int .u64 r3 ∧ DvRel u2 v1 Q0 q2 r3) (fun _ qv => (intOf qv).toNat)
        case atStart => exact ⟨Qb, Rb, rfl, rfl, hb0⟩
        case round =>
          obtain ⟨q2, r3, rfl, rfl, hr⟩ := hrel
          have ir : (r3 : Int) ≤ 4294967295 := by have := hr.2.2; omega
          have iq : (q2 : Int) ≤ 8589934592 := by have := hr.2.2; omega
          have iv1 : (v1 : Int) ≤ 4294967295 := by have := HV1.out; omega
          by_cases hq : 4294967296 ≤ q2
          · have hq' : decide ((4294967296 : Int) ≤ (q2 : Int)) = true := by simp; omega
            have hq'' : decide (4294967296 ≤ q2) = true := by simp; omega
            obtain ⟨q3, hq1⟩ : ∃ z, q2 = z + 1 := ⟨q2 - 1, by have := hq; omega⟩
            obtain ⟨r4, hr1⟩ : ∃ z, r3 + v1 = z := ⟨_, rfl⟩
            have d1 : IntKind.u64.wrap ((q2 : Int) - 1) = (q3 : Int) := by rw [show (q2 : Int) - 1 = (q3 : Int) by omega]; exact Mul64.wrapN _ (by omega)
            have d2 : IntKind.u64.wrap ((r3 : Int) + (v1 : Int)) = (r4 : Int) := by rw [Mul64.addN, hr1]; exact Mul64.wrapN _ (by omega)
            have HN : Hid (r4 + q3 * v1 = u2 ∧ Q0 ≤ q3 ∧ q3 ≤ 8589934592 ∧ q3 < q2) := by
              have h1 := dv_step v1 q2 r3 u2 hr.1 (by omega)
              have h2 := dv_down u2 l0 v1 v0 q2 r3 HUu2.out (by have := HL1.out; omega) hr.1 (.inl hq)
              rw [HQQ0.out] at h2
              have h3 := hr.2.2.2
              rw [hr1, show q2 - 1 = q3 by omega] at h1
              exact Lib.hid ⟨h1, by omega, by omega, by omega⟩
            clear hq hq1 hr1 ir iq iv1
            by_cases hb : 4294967296 ≤ r4
            · have hb' : decide ((4294967296 : Int) ≤ (r4 : Int)) = true := by simp; omega
              have hb'' : decide (4294967296 ≤ r4) = true := by simp; omega
              have HE : Hid (Q0 = q3) := by
                have := dv_break u2 l0 v1 v0 q3 r4 HUu2.out HV0.out HN.out.1 (by rw [HQQ0.out]; exact HN.out.2.1) hb
                rw [HQQ0.out] at this; exact Lib.hid this
              clear hb
              obtain rfl : q3 = Q0 := HE.out.symm
              go_wp2
              clear hb' hb'' d1 d2 HE HN hr
              go_ret2
              exact ⟨⟨_, rfl⟩, 0, by rw [World.drewN_zero]⟩
            · have hb' : decide ((4294967296 : Int) ≤ (r4 : Int)) = false := by simp; omega
              have hb'' : decide (4294967296 ≤ r4) = false := by simp; omega
              have HR : DvRel u2 v1 Q0 q3 r4 := ⟨HN.out.1, HN.out.2.1, by omega, HN.out.2.2.1⟩
              clear hb
              go_wp2
              go_round
              case rel => exact ⟨q3, r4, rfl, rfl, HR⟩
              case measure => have := HN.out.2.2.2; simp [intOf]; omega
          · have hq' : decide ((4294967296 : Int) ≤ (q2 : Int)) = false := by simp; omega
            have hq'' : decide (4294967296 ≤ q2) = false := by simp; omega
            obtain ⟨m4, hm⟩ : ∃ z, q2 * v0 = z := ⟨_, rfl⟩
            have hmb : m4 ≤ 18446744069414584320 := by
              rw [← hm]; exact Nat.le_trans (Nat.mul_le_mul (show q2 ≤ 4294967295 by omega) (show v0 ≤ 4294967295 by have := HV0.out; omega)) (by omega)
            have m1 : IntKind.u64.wrap ((q2 : Int) * (v0 : Int)) = (m4 : Int) := by rw [Mul64.mulN, hm]; exact Mul64.wrapN _ (by omega)
            have hl := HL1.out
            obtain ⟨r5, hr2⟩ : ∃ z, 4294967296 * r3 = z := ⟨_, rfl⟩
            obtain ⟨t4, ht⟩ : ∃ z, r5 + l0 = z := ⟨_, rfl⟩
            have m2 : IntKind.u64.wrap (4294967296 * (r3 : Int)) = (r5 : Int) := by rw [show 4294967296 * (r3 : Int) = (r5 : Int) by omega]; exact Mul64.wrapN _ (by omega)
            have m3 : IntKind.u64.wrap ((r5 : Int) + (l0 : Int)) = (t4 : Int) := by rw [Mul64.addN, ht]; exact Mul64.wrapN _ (by omega)
            have HM := Lib.hid (And.intro hm (And.intro hr2 ht))
            have hq0 : t4 < m4 → 0 < q2 := by
              intro h; apply Nat.pos_of_ne_zero; intro h0; rw [h0, Nat.zero_mul] at hm; omega
            clear hm hmb hq hr2 ht hl
            by_cases hc : t4 < m4
            · have hq1' := hq0 hc
              clear hq0
              have hc' : decide (t4 < m4) = true := decide_eq_true hc
              obtain ⟨q3, hq1⟩ : ∃ z, q2 = z + 1 := ⟨q2 - 1, by have := hq1'; omega⟩
              obtain ⟨r4, hr1⟩ : ∃ z, r3 + v1 = z := ⟨_, rfl⟩
              have d1 : IntKind.u64.wrap ((q2 : Int) - 1) = (q3 : Int) := by rw [show (q2 : Int) - 1 = (q3 : Int) by omega]; exact Mul64.wrapN _ (by omega)
              have d2 : IntKind.u64.wrap ((r3 : Int) + (v1 : Int)) = (r4 : Int) := by rw [Mul64.addN, hr1]; exact Mul64.wrapN _ (by omega)
              have HN : Hid (r4 + q3 * v1 = u2 ∧ Q0 ≤ q3 ∧ q3 ≤ 8589934592 ∧ q3 < q2) := by
                have h1 := dv_step v1 q2 r3 u2 hr.1 (by omega)
                have h2 := dv_down u2 l0 v1 v0 q2 r3 HUu2.out (by have := HL1.out; omega) hr.1 (.inr (by have := HM.out; omega))
                rw [HQQ0.out] at h2
                have h3 := hr.2.2.2
                rw [hr1, show q2 - 1 = q3 by omega] at h1
                exact Lib.hid ⟨h1, by omega, by omega, by omega⟩
              clear hc hq1' hq1 hr1 ir iq iv1
              by_cases hb : 4294967296 ≤ r4
              · have hb' : decide ((4294967296 : Int) ≤ (r4 : Int)) = true := by simp; omega
                have hb'' : decide (4294967296 ≤ r4) = true := by simp; omega
                have HE : Hid (Q0 = q3) := by
                  have := dv_break u2 l0 v1 v0 q3 r4 HUu2.out HV0.out HN.out.1 (by rw [HQQ0.out]; exact HN.out.2.1) hb
                  rw [HQQ0.out] at this; exact Lib.hid this
                clear hb
                obtain rfl : q3 = Q0 := HE.out.symm
                go_wp2
                clear hb' hb'' d1 d2 HE HN hr
                go_ret2
                exact ⟨⟨_, rfl⟩, 0, by rw [World.drewN_zero]⟩
              · have hb' : decide ((4294967296 : Int) ≤ (r4 : Int)) = false := by simp; omega
                have hb'' : decide (4294967296 ≤ r4) = false := by simp; omega
                have HR : DvRel u2 v1 Q0 q3 r4 := ⟨HN.out.1, HN.out.2.1, by omega, HN.out.2.2.1⟩
                clear hb
                go_wp2
                go_round
                case rel => exact ⟨q3, r4, rfl, rfl, HR⟩
                case measure => have := HN.out.2.2.2; simp [intOf]; omega
            · have hc' : decide (t4 < m4) = false := decide_eq_false hc
              have HE : Hid (Q0 = q2) := by
                have := dv_end u2 l0 v1 v0 q2 r3 HUu2.out hr.1 (by rw [HQQ0.out]; exact hr.2.1) (by have := HM.out; omega)
                rw [HQQ0.out] at this; exact Lib.hid this
              clear hc ir iq iv1 hq0
              obtain rfl : q2 = Q0 := HE.out.symm
              go_wp2
              clear hc' m1 m2 m3 hq' hq'' HE hr HM
              go_ret2
              exact ⟨⟨_, rfl⟩, 0, by rw [World.drewN_zero]⟩
      · have hb' : decide ((4294967296 : Int) ≤ (r1 : Int)) = false := by simp; omega
        have hb'' : decide (4294967296 ≤ r1) = false := by simp; omega
        have HR : DvRel u v1 Q1 q1 r1 := ⟨HN.out.1, HN.out.2.1, by omega, HN.out.2.2.1⟩
        clear hb
        go_wp2
        go_round
        case rel => exact ⟨q1, r1, rfl, rfl, HR⟩
        case measure => have := HN.out.2.2.2; simp [intOf]; omega
    · have hq' : decide ((4294967296 : Int) ≤ (q : Int)) = false := by simp; omega
      have hq'' : decide (4294967296 ≤ q) = false := by simp; omega
      obtain ⟨m, hm⟩ : ∃ z, q * v0 = z := ⟨_, rfl⟩
      have hmb : m ≤ 18446744069414584320 := by
        rw [← hm]; exact Nat.le_trans (Nat.mul_le_mul (show q ≤ 4294967295 by omega) (show v0 ≤ 4294967295 by have := HV0.out; omega)) (by omega)
      have m1 : IntKind.u64.wrap ((q : Int) * (v0 : Int)) = (m : Int) := by rw [Mul64.mulN, hm]; exact Mul64.wrapN _ (by omega)
      have hl := HL1.out
      obtain ⟨r2, hr2⟩ : ∃ z, 4294967296 * r = z := ⟨_, rfl⟩
      obtain ⟨t, ht⟩ : ∃ z, r2 + l1 = z := ⟨_, rfl⟩
      have m2 : IntKind.u64.wrap (4294967296 * (r : Int)) = (r2 : Int) := by rw [show 4294967296 * (r : Int) = (r2 : Int) by omega]; exact Mul64.wrapN _ (by omega)
      have m3 : IntKind.u64.wrap ((r2 : Int) + (l1 : Int)) = (t : Int) := by rw [Mul64.addN, ht]; exact Mul64.wrapN _ (by omega)
      have HM := Lib.hid (And.intro hm (And.intro hr2 ht))
      have hq0 : t < m → 0 < q := by
        intro h; apply Nat.pos_of_ne_zero; intro h0; rw [h0, Nat.zero_mul] at hm; omega
      clear hm hmb hq hr2 ht hl
      by_cases hc : t < m
      · have hq1' := hq0 hc
        clear hq0
        have hc' : decide (t < m) = true := decide_eq_true hc
        obtain ⟨q1, hq1⟩ : ∃ z, q = z + 1 := ⟨q - 1, by have := hq1'; omega⟩
        obtain ⟨r1, hr1⟩ : ∃ z, r + v1 = z := ⟨_, rfl⟩
        have d1 : IntKind.u64.wrap ((q : Int) - 1) = (q1 : Int) := by rw [show (q : Int) - 1 = (q1 : Int) by omega]; exact Mul64.wrapN _ (by omega)
        have d2 : IntKind.u64.wrap ((r : Int) + (v1 : Int)) = (r1 : Int) := by rw [Mul64.addN, hr1]; exact Mul64.wrapN _ (by omega)
        have HN : Hid (r1 + q1 * v1 = u ∧ Q1 ≤ q1 ∧ q1 ≤ 8589934592 ∧ q1 < q) := by
          have h1 := dv_step v1 q r u hr.1 (by omega)
          have h2 := dv_down u l1 v1 v0 q r HUu.out (by have := HL1.out; omega) hr.1 (.inr (by have := HM.out; omega))
          rw [HQQ1.out] at h2
          have h3 := hr.2.2.2
          rw [hr1, show q - 1 = q1 by omega] at h1
          exact Lib.hid ⟨h1, by omega, by omega, by omega⟩
        clear hc hq1' hq1 hr1 ir iq iv1
        by_cases hb : 4294967296 ≤ r1
        · have hb' : decide ((4294967296 : Int) ≤ (r1 : Int)) = true := by simp; omega
          have hb'' : decide (4294967296 ≤ r1) = true := by simp; omega
          have HE : Hid (Q1 = q1) := by
            have := dv_break u l1 v1 v0 q1 r1 HUu.out HV0.out HN.out.1 (by rw [HQQ1.out]; exact HN.out.2.1) hb
            rw [HQQ1.out] at this; exact Lib.hid this
          clear hb
          obtain rfl : q1 = Q1 := HE.out.symm
          go_wp2
          clear hb' hb'' d1 d2 HE HN hr
          go_loop [16, 18] (fun rv qv => ∃ q2 r3 : Nat, qv = .int .u64 q2 ∧ rv = .int .u64 r3 ∧ DvRel u2 v1 Q0 q2 r3) (fun _ qv => (intOf qv).toNat)
          case atStart => exact ⟨Qb, Rb, rfl, rfl, hb0⟩
          case round =>
            obtain ⟨q2, r3, rfl, rfl, hr⟩ := hrel
            have ir : (r3 : Int) ≤ 4294967295 := by have := hr.2.2; omega
            have iq : (q2 : Int) ≤ 8589934592 := by have := hr.2.2; omega
            have iv1 : (v1 : Int) ≤ 4294967295 := by have := HV1.out; omega
            by_cases hq : 4294967296 ≤ q2
            · have hq' : decide ((4294967296 : Int) ≤ (q2 : Int)) = true := by simp; omega
              have hq'' : decide (4294967296 ≤ q2) = true := by simp; omega
              obtain ⟨q3, hq1⟩ : ∃ z, q2 = z + 1 := ⟨q2 - 1, by have := hq; omega⟩
              obtain ⟨r4, hr1⟩ : ∃ z, r3 + v1 = z := ⟨_, rfl⟩
              have d1 : IntKind.u64.wrap ((q2 : Int) - 1) = (q3 : Int) := by rw [show (q2 : Int) - 1 = (q3 : Int) by omega]; exact Mul64.wrapN _ (by omega)
              have d2 : IntKind.u64.wrap ((r3 : Int) + (v1 : Int)) = (r4 : Int) := by rw [Mul64.addN, hr1]; exact Mul64.wrapN _ (by omega)
              have HN : Hid (r4 + q3 * v1 = u2 ∧ Q0 ≤ q3 ∧ q3 ≤ 8589934592 ∧ q3 < q2) := by
                have h1 := dv_step v1 q2 r3 u2 hr.1 (by omega)
                have h2 := dv_down u2 l0 v1 v0 q2 r3 HUu2.out (by have := HL1.out; omega) hr.1 (.inl hq)
                rw [HQQ0.out] at h2
                have h3 := hr.2.2.2
                rw [hr1, show q2 - 1 = q3 by omega] at h1
                exact Lib.hid ⟨h1, by omega, by omega, by omega⟩
              clear hq hq1 hr1 ir iq iv1
              by_cases hb : 4294967296 ≤ r4
              · have hb' : decide ((4294967296 : Int) ≤ (r4 : Int)) = true := by simp; omega
                have hb'' : decide (4294967296 ≤ r4) = true := by simp; omega
                have HE : Hid (Q0 = q3) := by
                  have := dv_break u2 l0 v1 v0 q3 r4 HUu2.out HV0.out HN.out.1 (by rw [HQQ0.out]; exact HN.out.2.1) hb
                  rw [HQQ0.out] at this; exact Lib.hid this
                clear hb
                obtain rfl : q3 = Q0 := HE.out.symm
                go_wp2
                clear hb' hb'' d1 d2 HE HN hr
                go_ret2
                exact ⟨⟨_, rfl⟩, 0, by rw [World.drewN_zero]⟩
              · have hb' : decide ((4294967296 : Int) ≤ (r4 : Int)) = false := by simp; omega
                have hb'' : decide (4294967296 ≤ r4) = false := by simp; omega
                have HR : DvRel u2 v1 Q0 q3 r4 := ⟨HN.out.1, HN.out.2.1, by omega, HN.out.2.2.1⟩
                clear hb
                go_wp2
                go_round
                case rel => exact ⟨q3, r4, rfl, rfl, HR⟩
                case measure => have := HN.out.2.2.2; simp [intOf]; omega
            · have hq' : decide ((4294967296 : Int) ≤ (q2 : Int)) = false := by simp; omega
              have hq'' : decide (4294967296 ≤ q2) = false := by simp; omega
              obtain ⟨m4, hm⟩ : ∃ z, q2 * v0 = z := ⟨_, rfl⟩
              have hmb : m4 ≤ 18446744069414584320 := by
                rw [← hm]; exact Nat.le_trans (Nat.mul_le_mul (show q2 ≤ 4294967295 by omega) (show v0 ≤ 4294967295 by have := HV0.out; omega)) (by omega)
              have m1 : IntKind.u64.wrap ((q2 : Int) * (v0 : Int)) = (m4 : Int) := by rw [Mul64.mulN, hm]; exact Mul64.wrapN _ (by omega)
              have hl := HL1.out
              obtain ⟨r5, hr2⟩ : ∃ z, 4294967296 * r3 = z := ⟨_, rfl⟩
              obtain ⟨t4, ht⟩ : ∃ z, r5 + l0 = z := ⟨_, rfl⟩
              have m2 : IntKind.u64.wrap (4294967296 * (r3 : Int)) = (r5 : Int) := by rw [show 4294967296 * (r3 : Int) = (r5 : Int) by omega]; exact Mul64.wrapN _ (by omega)
              have m3 : IntKind.u64.wrap ((r5 : Int) + (l0 : Int)) = (t4 : Int) := by rw [Mul64.addN, ht]; exact Mul64.wrapN _ (by omega)
              have HM := Lib.hid (And.intro hm (And.intro hr2 ht))
              have hq0 : t4 < m4 → 0 < q2 := by
                intro h; apply Nat.pos_of_ne_zero; intro h0; rw [h0, Nat.zero_mul] at hm; omega
              clear hm hmb hq hr2 ht hl
              by_cases hc : t4 < m4
              · have hq1' := hq0 hc
                clear hq0
                have hc' : decide (t4 < m4) = true := decide_eq_true hc
                obtain ⟨q3, hq1⟩ : ∃ z, q2 = z + 1 := ⟨q2 - 1, by have := hq1'; omega⟩
                obtain ⟨r4, hr1⟩ : ∃ z, r3 + v1 = z := ⟨_, rfl⟩
                have d1 : IntKind.u64.wrap ((q2 : Int) - 1) = (q3 : Int) := by rw [show (q2 : Int) - 1 = (q3 : Int) by omega]; exact Mul64.wrapN _ (by omega)
                have d2 : IntKind.u64.wrap ((r3 : Int) + (v1 : Int)) = (r4 : Int) := by rw [Mul64.addN, hr1]; exact Mul64.wrapN _ (by omega)
                have HN : Hid (r4 + q3 * v1 = u2 ∧ Q0 ≤ q3 ∧ q3 ≤ 8589934592 ∧ q3 < q2) := by
                  have h1 := dv_step v1 q2 r3 u2 hr.1 (by omega)
                  have h2 := dv_down u2 l0 v1 v0 q2 r3 HUu2.out (by have := HL1.out; omega) hr.1 (.inr (by have := HM.out; omega))
                  rw [HQQ0.out] at h2
                  have h3 := hr.2.2.2
                  rw [hr1, show q2 - 1 = q3 by omega] at h1
                  exact Lib.hid ⟨h1, by omega, by omega, by omega⟩
                clear hc hq1' hq1 hr1 ir iq iv1
                by_cases hb : 4294967296 ≤ r4
                · have hb' : decide ((4294967296 : Int) ≤ (r4 : Int)) = true := by simp; omega
                  have hb'' : decide (4294967296 ≤ r4) = true := by simp; omega
                  have HE : Hid (Q0 = q3) := by
                    have := dv_break u2 l0 v1 v0 q3 r4 HUu2.out HV0.out HN.out.1 (by rw [HQQ0.out]; exact HN.out.2.1) hb
                    rw [HQQ0.out] at this; exact Lib.hid this
                  clear hb
                  obtain rfl : q3 = Q0 := HE.out.symm
                  go_wp2
                  clear hb' hb'' d1 d2 HE HN hr
                  go_ret2
                  exact ⟨⟨_, rfl⟩, 0, by rw [World.drewN_zero]⟩
                · have hb' : decide ((4294967296 : Int) ≤ (r4 : Int)) = false := by simp; omega
                  have hb'' : decide (4294967296 ≤ r4) = false := by simp; omega
                  have HR : DvRel u2 v1 Q0 q3 r4 := ⟨HN.out.1, HN.out.2.1, by omega, HN.out.2.2.1⟩
                  clear hb
                  go_wp2
                  go_round
                  case rel => exact ⟨q3, r4, rfl, rfl, HR⟩
                  case measure => have := HN.out.2.2.2; simp [intOf]; omega
              · have hc' : decide (t4 < m4) = false := decide_eq_false hc
                have HE : Hid (Q0 = q2) := by
                  have := dv_end u2 l0 v1 v0 q2 r3 HUu2.out hr.1 (by rw [HQQ0.out]; exact hr.2.1) (by have := HM.out; omega)
                  rw [HQQ0.out] at this; exact Lib.hid this
                clear hc ir iq iv1 hq0
                obtain rfl : q2 = Q0 := HE.out.symm
                go_wp2
                clear hc' m1 m2 m3 hq' hq'' HE hr HM
                go_ret2
                exact ⟨⟨_, rfl⟩, 0, by rw [World.drewN_zero]⟩
        · have hb' : decide ((4294967296 : Int) ≤ (r1 : Int)) = false := by simp; omega
          have hb'' : decide (4294967296 ≤ r1) = false := by simp; omega
          have HR : DvRel u v1 Q1 q1 r1 := ⟨HN.out.1, HN.out.2.1, by omega, HN.out.2.2.1⟩
          clear hb
          go_wp2
          go_round
          case rel => exact ⟨q1, r1, rfl, rfl, HR⟩
          case measure => have := HN.out.2.2.2; simp [intOf]; omega
      · have hc' : decide (t < m) = false := decide_eq_false hc
        have HE : Hid (Q1 = q) := by
          have := dv_end u l1 v1 v0 q r HUu.out hr.1 (by rw [HQQ1.out]; exact hr.2.1) (by have := HM.out; omega)
          rw [HQQ1.out] at this; exact Lib.hid this
        clear hc ir iq iv1 hq0
        obtain rfl : q = Q1 := HE.out.symm
        go_wp2
        clear hc' m1 m2 m3 hq' hq'' HE hr HM
        go_loop [16, 18] (fun rv qv => ∃ q2 r3 : Nat, qv = .int .u64 q2 ∧ rv = .int .u64 r3 ∧ DvRel u2 v1 Q0 q2 r3) (fun _ qv => (intOf qv).toNat)
        case atStart => exact ⟨Qb, Rb, rfl, rfl, hb0⟩
        case round =>
          obtain ⟨q2, r3, rfl, rfl, hr⟩ := hrel
          have ir : (r3 : Int) ≤ 4294967295 := by have := hr.2.2; omega
          have iq : (q2 : Int) ≤ 8589934592 := by have := hr.2.2; omega
          have iv1 : (v1 : Int) ≤ 4294967295 := by have := HV1.out; omega
          by_cases hq : 4294967296 ≤ q2
          · have hq' : decide ((4294967296 : Int) ≤ (q2 : Int)) = true := by simp; omega
            have hq'' : decide (4294967296 ≤ q2) = true := by simp; omega
            obtain ⟨q3, hq1⟩ : ∃ z, q2 = z + 1 := ⟨q2 - 1, by have := hq; omega⟩
            obtain ⟨r4, hr1⟩ : ∃ z, r3 + v1 = z := ⟨_, rfl⟩
            have d1 : IntKind.u64.wrap ((q2 : Int) - 1) = (q3 : Int) := by rw [show (q2 : Int) - 1 = (q3 : Int) by omega]; exact Mul64.wrapN _ (by omega)
            have d2 : IntKind.u64.wrap ((r3 : Int) + (v1 : Int)) = (r4 : Int) := by rw [Mul64.addN, hr1]; exact Mul64.wrapN _ (by omega)
            have HN : Hid (r4 + q3 * v1 = u2 ∧ Q0 ≤ q3 ∧ q3 ≤ 8589934592 ∧ q3 < q2) := by
              have h1 := dv_step v1 q2 r3 u2 hr.1 (by omega)
              have h2 := dv_down u2 l0 v1 v0 q2 r3 HUu2.out (by have := HL1.out; omega) hr.1 (.inl hq)
              rw [HQQ0.out] at h2
              have h3 := hr.2.2.2
              rw [hr1, show q2 - 1 = q3 by omega] at h1
              exact Lib.hid ⟨h1, by omega, by omega, by omega⟩
            clear hq hq1 hr1 ir iq iv1
            by_cases hb : 4294967296 ≤ r4
            · have hb' : decide ((4294967296 : Int) ≤ (r4 : Int)) = true := by simp; omega
              have hb'' : decide (4294967296 ≤ r4) = true := by simp; omega
              have HE : Hid (Q0 = q3) := by
                have := dv_break u2 l0 v1 v0 q3 r4 HUu2.out HV0.out HN.out.1 (by rw [HQQ0.out]; exact HN.out.2.1) hb
                rw [HQQ0.out] at this; exact Lib.hid this
              clear hb
              obtain rfl : q3 = Q0 := HE.out.symm
              go_wp2
              clear hb' hb'' d1 d2 HE HN hr
              go_ret2
              exact ⟨⟨_, rfl⟩, 0, by rw [World.drewN_zero]⟩
            · have hb' : decide ((4294967296 : Int) ≤ (r4 : Int)) = false := by simp; omega
              have hb'' : decide (4294967296 ≤ r4) = false := by simp; omega
              have HR : DvRel u2 v1 Q0 q3 r4 := ⟨HN.out.1, HN.out.2.1, by omega, HN.out.2.2.1⟩
              clear hb
              go_wp2
              go_round
              case rel => exact ⟨q3, r4, rfl, rfl, HR⟩
              case measure => have := HN.out.2.2.2; simp [intOf]; omega
          · have hq' : decide ((4294967296 : Int) ≤ (q2 : Int)) = false := by simp; omega
            have hq'' : decide (4294967296 ≤ q2) = false := by simp; omega
            obtain ⟨m4, hm⟩ : ∃ z, q2 * v0 = z := ⟨_, rfl⟩
            have hmb : m4 ≤ 18446744069414584320 := by
              rw [← hm]; exact Nat.le_trans (Nat.mul_le_mul (show q2 ≤ 4294967295 by omega) (show v0 ≤ 4294967295 by have := HV0.out; omega)) (by omega)
            have m1 : IntKind.u64.wrap ((q2 : Int) * (v0 : Int)) = (m4 : Int) := by rw [Mul64.mulN, hm]; exact Mul64.wrapN _ (by omega)
            have hl := HL1.out
            obtain ⟨r5, hr2⟩ : ∃ z, 4294967296 * r3 = z := ⟨_, rfl⟩
            obtain ⟨t4, ht⟩ : ∃ z, r5 + l0 = z := ⟨_, rfl⟩
            have m2 : IntKind.u64.wrap (4294967296 * (r3 : Int)) = (r5 : Int) := by rw [show 4294967296 * (r3 : Int) = (r5 : Int) by omega]; exact Mul64.wrapN _ (by omega)
            have m3 : IntKind.u64.wrap ((r5 : Int) + (l0 : Int)) = (t4 : Int) := by rw [Mul64.addN, ht]; exact Mul64.wrapN _ (by omega)
            have HM := Lib.hid (And.intro hm (And.intro hr2 ht))
            have hq0 : t4 < m4 → 0 < q2 := by
              intro h; apply Nat.pos_of_ne_zero; intro h0; rw [h0, Nat.zero_mul] at hm; omega
            clear hm hmb hq hr2 ht hl
            by_cases hc : t4 < m4
            · have hq1' := hq0 hc
              clear hq0
              have hc' : decide (t4 < m4) = true := decide_eq_true hc
              obtain ⟨q3, hq1⟩ : ∃ z, q2 = z + 1 := ⟨q2 - 1, by have := hq1'; omega⟩
              obtain ⟨r4, hr1⟩ : ∃ z, r3 + v1 = z := ⟨_, rfl⟩
              have d1 : IntKind.u64.wrap ((q2 : Int) - 1) = (q3 : Int) := by rw [show (q2 : Int) - 1 = (q3 : Int) by omega]; exact Mul64.wrapN _ (by omega)
              have d2 : IntKind.u64.wrap ((r3 : Int) + (v1 : Int)) = (r4 : Int) := by rw [Mul64.addN, hr1]; exact Mul64.wrapN _ (by omega)
              have HN : Hid (r4 + q3 * v1 = u2 ∧ Q0 ≤ q3 ∧ q3 ≤ 8589934592 ∧ q3 < q2) := by
                have h1 := dv_step v1 q2 r3 u2 hr.1 (by omega)
                have h2 := dv_down u2 l0 v1 v0 q2 r3 HUu2.out (by have := HL1.out; omega) hr.1 (.inr (by have := HM.out; omega))
                rw [HQQ0.out] at h2
                have h3 := hr.2.2.2
                rw [hr1, show q2 - 1 = q3 by omega] at h1
                exact Lib.hid ⟨h1, by omega, by omega, by omega⟩
              clear hc hq1' hq1 hr1 ir iq iv1
              by_cases hb : 4294967296 ≤ r4
              · have hb' : decide ((4294967296 : Int) ≤ (r4 : Int)) = true := by simp; omega
                have hb'' : decide (4294967296 ≤ r4) = true := by simp; omega
                have HE : Hid (Q0 = q3) := by
                  have := dv_break u2 l0 v1 v0 q3 r4 HUu2.out HV0.out HN.out.1 (by rw [HQQ0.out]; exact HN.out.2.1) hb
                  rw [HQQ0.out] at this; exact Lib.hid this
                clear hb
                obtain rfl : q3 = Q0 := HE.out.symm
                go_wp2
                clear hb' hb'' d1 d2 HE HN hr
                go_ret2
                exact ⟨⟨_, rfl⟩, 0, by rw [World.drewN_zero]⟩
              · have hb' : decide ((4294967296 : Int) ≤ (r4 : Int)) = false := by simp; omega
                have hb'' : decide (4294967296 ≤ r4) = false := by simp; omega
                have HR : DvRel u2 v1 Q0 q3 r4 := ⟨HN.out.1, HN.out.2.1, by omega, HN.out.2.2.1⟩
                clear hb
                go_wp2
                go_round
                case rel => exact ⟨q3, r4, rfl, rfl, HR⟩
                case measure => have := HN.out.2.2.2; simp [intOf]; omega
            · have hc' : decide (t4 < m4) = false := decide_eq_false hc
              have HE : Hid (Q0 = q2) := by
                have := dv_end u2 l0 v1 v0 q2 r3 HUu2.out hr.1 (by rw [HQQ0.out]; exact hr.2.1) (by have := HM.out; omega)
                rw [HQQ0.out] at this; exact Lib.hid this
              clear hc ir iq iv1 hq0
              obtain rfl : q2 = Q0 := HE.out.symm
              go_wp2
              clear hc' m1 m2 m3 hq' hq'' HE hr HM
              go_ret2
              exact ⟨⟨_, rfl⟩, 0, by rw [World.drewN_zero]⟩
/-- One digit's numbers. -/
theorem dv_one (u d v1 v0 Q : Nat) (hu : u < v1 * 4294967296 + v0) (hv : v0 < 4294967296) (h1 : 2147483648 ≤ v1) (hV : v1 * 4294967296 + v0 ≤ 18446744073709551615) (hd : d < 4294967296) (hQ : (u * 4294967296 + d) / (v1 * 4294967296 + v0) = Q) :
    IntKind.u64.wrap ((u : Int) / (v1 : Int)) = ((u / v1 : Nat) : Int) ∧ IntKind.u64.wrap ((u : Int) - IntKind.u64.wrap (((u / v1 : Nat) : Int) * (v1 : Int))) = ((u % v1 : Nat) : Int) ∧ DvRel u v1 Q (u / v1) (u % v1) := by
  have hdm := Nat.div_add_mod u v1
  have hml := Nat.mod_lt u (show v1 > 0 by omega)
  have hab := dv_above u d v1 v0 (by omega) hd
  have hq : u / v1 ≤ 8589934592 := by
    have hul : u ≤ 18446744073709551615 := by omega
    have h2 := Nat.div_le_div_right (c := v1) hul
    refine Nat.le_trans h2 ?_
    have h3 : 18446744073709551615 / v1 * v1 ≤ 18446744073709551615 := Nat.div_mul_le_self _ _
    have h4 := Nat.mul_le_mul_left (18446744073709551615 / v1) h1
    omega
  refine ⟨?_, ?_, ?_, ?_, ?_, hq⟩
  · rw [← Int.natCast_ediv]; exact Mul64.wrapN _ (by omega)
  · rw [Mul64.mulN, Nat.mul_comm]
    generalize u / v1 = q at *
    generalize u % v1 = r at *
    generalize v1 * q = p at *
    rw [Mul64.wrapN _ (by omega), show (u : Int) - (p : Int) = (r : Int) by omega, Mul64.wrapN _ (by omega)]
  · rw [Nat.mul_comm]; omega
  · rw [← hQ]; exact hab
  · omega
/-- ████ math/bits.Div64. -/
theorem div64_any (hi lo y : Nat) (w : World) (hhi : hi < y) (hy2 : y < 18446744073709551616) (hlo : lo < 18446744073709551616) :
    Calls Tryz.prog 87 #[.int .u64 hi, .int .u64 lo, .int .u64 y] w (DivPost ((hi * 18446744073709551616 + lo) / y) w) := by
  by_cases h0 : hi = 0
  · subst h0
    have h := div64_low lo y w (by omega) hy2 hlo
    rw [show 0 * 18446744073709551616 + lo = lo by omega]; exact h
  · have hb := Lib.bitLenAux_bounds 64 y (by simpa using hy2) (by omega)
    have hb64 : Lib.bitLen y ≤ 64 := Lib.bitLen_le y 64 (by omega) (by omega)
    have hb' : 1 ≤ Lib.bitLen y ∧ 2 ^ (Lib.bitLen y - 1) ≤ y ∧ y < 2 ^ Lib.bitLen y := hb
    clear hb
    obtain ⟨s, hs⟩ : ∃ s, 64 - Lib.bitLen y = s := ⟨_, rfl⟩
    have eb : Lib.bitLen y = 64 - s := by omega
    have hs63 : s ≤ 63 := by omega
    have hs2 := hs
    rw [eb] at hb'
    obtain ⟨V, hV⟩ : ∃ V, y * 2 ^ s = V := ⟨_, rfl⟩
    have hV1 : 9223372036854775808 ≤ V := by
      have := Nat.mul_le_mul_right (2 ^ s) hb'.2.1
      rw [← Nat.pow_add, show 64 - s - 1 + s = 63 by omega, hV] at this; exact this
    have hV2 : V < 18446744073709551616 := by
      have := Nat.mul_lt_mul_of_pos_right hb'.2.2 (Nat.two_pow_pos s)
      rw [← Nat.pow_add, show 64 - s + s = 64 by omega, hV] at this; exact this
    have hdig := div_digits hi lo y s hs63 hhi hlo (by omega)
    have hor := or_shift hi lo s hs63 (by have := hdig.1; omega) hlo
    rw [hV] at hdig
    obtain ⟨u, hu⟩ : ∃ u, hi * 2 ^ s + lo / 2 ^ (64 - s) = u := ⟨_, rfl⟩
    rw [hu] at hdig hor
    obtain ⟨L, hL⟩ : ∃ L, lo * 2 ^ s % 18446744073709551616 = L := ⟨_, rfl⟩
    have hL2 : L < 18446744073709551616 := by rw [← hL]; exact Nat.mod_lt _ (by decide)
    have eL : IntKind.u64.wrap ((lo : Int) * 2 ^ s) = (L : Int) := by
      rw [show (lo : Int) * 2 ^ s = ((lo * 2 ^ s : Nat) : Int) by simp, Mul64.wrapM, hL]
    rw [hL] at hdig
    obtain ⟨v1, hv1⟩ : ∃ v1, V / 4294967296 = v1 := ⟨_, rfl⟩
    obtain ⟨v0, hv0⟩ : ∃ v0, V % 4294967296 = v0 := ⟨_, rfl⟩
    obtain ⟨l1, hl1⟩ : ∃ l1, L / 4294967296 = l1 := ⟨_, rfl⟩
    obtain ⟨l0, hl0⟩ : ∃ l0, L % 4294967296 = l0 := ⟨_, rfl⟩
    have eV : v1 * 4294967296 + v0 = V := by rw [← hv1, ← hv0]; exact Nat.div_add_mod' V 4294967296
    have eL2 : l1 * 4294967296 + l0 = L := by rw [← hl1, ← hl0]; exact Nat.div_add_mod' L 4294967296
    have HLL := Lib.hid hL
    clear hL
    have hfin : (hi * 18446744073709551616 + lo) / y = (u * 4294967296 + l1) / V * 4294967296 + ((u * 4294967296 + l1) % V * 4294967296 + l0) / V := by
      rw [← dv_all u l1 l0 V (by omega), eL2, ← hdig.2, ← hV, Nat.mul_div_mul_right _ _ (Nat.two_pow_pos s)]
    obtain ⟨Q1, hQ1⟩ : ∃ z, (u * 4294967296 + l1) / V = z := ⟨_, rfl⟩
    obtain ⟨u2, hu2⟩ : ∃ z, (u * 4294967296 + l1) % V = z := ⟨_, rfl⟩
    have hu2V : u2 < V := by rw [← hu2]; exact Nat.mod_lt _ (by omega)
    obtain ⟨Q0, hQ0⟩ : ∃ z, (u2 * 4294967296 + l0) / V = z := ⟨_, rfl⟩
    have hQ1b : Q1 < 4294967296 := by rw [← hQ1]; exact dv_lt u l1 V hdig.1 (by omega)
    have hQ0b : Q0 < 4294967296 := by rw [← hQ0]; exact dv_lt u2 l0 V hu2V (by omega)
    have hrest := dv_rest u l1 V (by omega) hdig.1
    rw [hQ1, hu2] at hrest
    rw [hQ1, hu2, hQ0] at hfin
    rw [hfin]
    have o1 := dv_one u l1 v1 v0 Q1 (by rw [eV]; exact hdig.1) (by omega) (by omega) (by omega) (by omega) (by rw [eV]; exact hQ1)
    have o2 := dv_one u2 l0 v1 v0 Q0 (by rw [eV]; exact hu2V) (by omega) (by omega) (by omega) (by omega) (by rw [eV]; exact hQ0)
    refine div64_walk hi lo y s V v1 v0 u L l1 l0 (u / v1) (u % v1) Q1 u2 (u2 / v1) (u2 % v1) Q0 (Q1 * 4294967296) (Q1 * 4294967296 + Q0) w (by omega) hhi hy2 hs63 hs2
      ?_ (by omega) ?_ hor eL (by omega) ?_ o1.1 o1.2.1 hrest ?_ ?_ o2.1 o2.2.1 (by omega) (by omega) (by omega) (by omega) (by omega) (Lib.hid (by rw [eV]; exact hQ1)) (Lib.hid (by rw [eV]; exact hQ0)) (Lib.hid (by rw [eV]; exact hdig.1)) (Lib.hid (by rw [eV]; exact hu2V)) o1.2.2 o2.2.2
    · rw [show (y : Int) * 2 ^ s = ((y * 2 ^ s : Nat) : Int) by simp, hV]; exact Mul64.wrapN _ hV2
    · rw [and32 V (by omega), hv0]
    · rw [and32 L (by omega), hl0]
    · rw [show (Q1 : Int) * 4294967296 = ((Q1 * 4294967296 : Nat) : Int) by simp]; exact Mul64.wrapN _ (by omega)
    · rw [Mul64.addN]; exact Mul64.wrapN _ (by omega)
end Go.Proofs.YtipcanbeegladaaGreatDoor
