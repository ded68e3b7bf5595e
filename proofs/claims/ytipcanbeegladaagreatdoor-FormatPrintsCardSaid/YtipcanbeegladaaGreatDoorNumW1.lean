/-
  CONTRACTS of layer 5's reckoning (num.size, signed, ratio, Int, Whole, Add, Sub, Mul, Div, Mod): what each hands back, for numbers from -Most to Most.
-/
import Derived.Test.YtipcanbeegladaaGreatDoorDivW
import Derived.Test.YtipcanbeegladaaGreatDoorNumM
namespace Go.Proofs.YtipcanbeegladaaGreatDoor
open Go.RowKit

theorem ret_i {k : IntKind} {a b : Int} (h : a = b) : Ending.returned (.int k a) = .returned (.int k b) := by rw [h]
theorem size_any (a : Int) (w : World) (h1 : -9223372036854775808 ≤ a) (h2 : a ≤ 9223372036854775807) :
    Calls Tryz.prog 79 #[.int .i64 a] w fun e w' => e = .returned (.int .u64 (a.natAbs : Int)) ∧ w = w' := by
  by_cases hn : a < 0
  · have e1 : IntKind.u64.wrap (wrap64 (-a)) = (a.natAbs : Int) := by rw [IntKind.wrap_u64]; unfold wrap64; omega
    go_enter Tryz.func79, Tryz.ntmps79
    go_wp2
    go_ret
    exact ⟨rfl, rfl⟩
  · have e1 : IntKind.u64.wrap a = (a.natAbs : Int) := by rw [IntKind.wrap_u64]; omega
    go_enter Tryz.func79, Tryz.ntmps79
    go_wp2
    go_ret
    exact ⟨rfl, rfl⟩
theorem signed_any (b : Bool) (n : Nat) (w : World) (h : n < 18446744073709551616) :
    Calls Tryz.prog 61 #[.bool b, .int .u64 n] w fun e w' => e = .returned (.int .i64 (sgnI b (min n mostN))) ∧ w = w' := by
  have e1 : min (n : Int) 4611686018427387903 = ((min n mostN : Nat) : Int) := by unfold mostN; omega
  cases b
  · go_enter Tryz.func61, Tryz.ntmps61
    clear e1
    go_wp2
    go_ret
    exact ⟨ret_i (by unfold sgnI mostN; simp; omega), rfl⟩
  · clear e1
    go_enter Tryz.func61, Tryz.ntmps61
    go_wp2
    go_ret
    exact ⟨ret_i (by unfold sgnI mostN; simp; omega), rfl⟩
def clampI (x : Int) : Int := max (-4611686018427387903) (min x 4611686018427387903)
def OkN (a : Int) : Prop := -4611686018427387903 ≤ a ∧ a ≤ 4611686018427387903
theorem clamp_ok (x : Int) : OkN (clampI x) := by unfold OkN clampI; omega
theorem clamp_id {x : Int} (h : OkN x) : clampI x = x := by unfold OkN at h; unfold clampI; omega
theorem whole_any (a : Int) (w : World) (ha : OkN a) :
    Calls Tryz.prog 31 #[.int .i64 a] w fun e w' => e = .returned (.int .i64 (a.tdiv 1000000)) ∧ w = w' := by
  unfold OkN at ha
  go_enter Tryz.func31, Tryz.ntmps31
  go_wp2
  go_ret
  exact ⟨rfl, rfl⟩

/-! The ratio. -/
def sg3 (a b c : Int) : Bool := !((!(decide (a < 0) == decide (b < 0))) == decide (c < 0))
def ratioI (a b c : Int) : Int := sgnI (sg3 a b c) (min (a.natAbs * b.natAbs / c.natAbs) mostN)
def Dr (w w' : World) : Prop := ∃ n, w' = w.drewN n
theorem Dr.refl (w : World) : Dr w w := ⟨0, by rw [World.drewN_zero]⟩
set_option maxHeartbeats 1000000 in
theorem ratio_any (a b c : Int) (w : World) (ha : -9223372036854775808 ≤ a ∧ a ≤ 9223372036854775807) (hb : OkN b) (hc : OkN c) (h0 : c ≠ 0) :
    Calls Tryz.prog 57 #[.int .i64 a, .int .i64 b, .int .i64 c] w fun e w' => e = .returned (.int .i64 (ratioI a b c)) ∧ Dr w w' := by
  unfold OkN at hb hc
  obtain ⟨x, hx⟩ : ∃ x, a.natAbs = x := ⟨_, rfl⟩
  obtain ⟨y, hy⟩ : ∃ y, b.natAbs = y := ⟨_, rfl⟩
  obtain ⟨z, hz⟩ : ∃ z, c.natAbs = z := ⟨_, rfl⟩
  have hxb : x ≤ 9223372036854775808 := by omega
  have hyb : y ≤ 4611686018427387903 := by omega
  have hzb : z ≤ 4611686018427387903 := by omega
  have hz0 : 0 < z := by omega
  obtain ⟨hi, hhi⟩ : ∃ p, x * y / 18446744073709551616 = p := ⟨_, rfl⟩
  obtain ⟨lo, hlo⟩ : ∃ p, x * y % 18446744073709551616 = p := ⟨_, rfl⟩
  have hlob : lo < 18446744073709551616 := by rw [← hlo]; exact Nat.mod_lt _ (by decide)
  have hpr : hi * 18446744073709551616 + lo = x * y := by rw [← hhi, ← hlo]; exact Nat.div_add_mod' _ _
  have hxy : x * y ≤ 9223372036854775808 * 4611686018427387903 := Nat.mul_le_mul hxb hyb
  have sza := fun W => size_any a W ha.1 ha.2
  have szb := fun W => size_any b W (by omega) (by omega)
  have szc := fun W => size_any c W (by omega) (by omega)
  have ml := fun W => Tryz.bits_Mul64 x y (by omega) (by omega) W
  rw [hx] at sza
  rw [hy] at szb
  rw [hz] at szc
  rw [hhi, hlo] at ml
  have er : ratioI a b c = sgnI (sg3 a b c) (min (x * y / z) mostN) := by unfold ratioI; rw [hx, hy, hz]
  have sgn := fun n (hn : n < 18446744073709551616) W => signed_any (sg3 a b c) n W hn
  have sgm : ∀ W, Calls Tryz.prog 61 #[.bool (sg3 a b c), .int .u64 4611686018427387903] W fun e w' => e = .returned (.int .i64 (sgnI (sg3 a b c) (min mostN mostN))) ∧ W = w' := fun W => signed_any (sg3 a b c) mostN W (by decide)
  unfold sg3 at sgn sgm
  have hhib : hi ≤ 4611686018427387903 := by omega
  have HP := Lib.hid (And.intro hpr (And.intro hlob (And.intro hz0 er)))
  have HX := Lib.hid (And.intro hxb (And.intro hyb hzb))
  clear hx hy hz hhi hlo hpr hxy er hlob hxb hyb hzb hz0 h0
  by_cases hlt : hi < z
  · have hd : decide (hi < z) = true := decide_eq_true hlt
    have HL := Lib.hid hlt
    have hqb : (hi * 18446744073709551616 + lo) / z < 18446744073709551616 := (Nat.div_lt_iff_lt_mul HP.out.2.2.1).2 (by have := HP.out.2.1; have := HL.out; omega)
    have dv := fun W => div64_any hi lo z W HL.out (by have := HX.out; omega) HP.out.2.1
    obtain ⟨q, hq⟩ : ∃ q, (hi * 18446744073709551616 + lo) / z = q := ⟨_, rfl⟩
    rw [hq] at dv hqb
    have sgn := sgn q hqb
    have HQ := Lib.hid hq
    clear hq hqb
    clear hlt
    go_enter Tryz.func57, Tryz.ntmps57
    go_wp2_with (first
      | (go_at_call 79; (with_reducible refine (sza _).mono ?_); rintro e w' ⟨rfl, rfl⟩)
      | (go_at_call 79; (with_reducible refine (szb _).mono ?_); rintro e w' ⟨rfl, rfl⟩)
      | (go_at_call 79; (with_reducible refine (szc _).mono ?_); rintro e w' ⟨rfl, rfl⟩)
      | (go_at_call 86; (with_reducible refine (ml _).mono ?_); rintro e w' ⟨rfl, rfl⟩)
      | (go_at_call 87; (with_reducible refine (dv _).mono ?_); rintro e w' ⟨⟨r, rfl⟩, n, rfl⟩)
      | (go_at_call 61; (with_reducible refine (sgn _).mono ?_); rintro e w' ⟨rfl, rfl⟩))
    go_ret
    refine ⟨ret_i ?_, n, rfl⟩
    rw [HP.out.2.2.2, ← HP.out.1, HQ.out]
    rfl
  · have hd : decide (hi < z) = false := decide_eq_false hlt
    have HL := Lib.hid hlt
    clear hlt
    go_enter Tryz.func57, Tryz.ntmps57
    go_wp2_with (first
      | (go_at_call 79; (with_reducible refine (sza _).mono ?_); rintro e w' ⟨rfl, rfl⟩)
      | (go_at_call 79; (with_reducible refine (szb _).mono ?_); rintro e w' ⟨rfl, rfl⟩)
      | (go_at_call 79; (with_reducible refine (szc _).mono ?_); rintro e w' ⟨rfl, rfl⟩)
      | (go_at_call 86; (with_reducible refine (ml _).mono ?_); rintro e w' ⟨rfl, rfl⟩)
      | (go_at_call 61; (with_reducible refine (sgm _).mono ?_); rintro e w' ⟨rfl, rfl⟩))
    go_ret
    refine ⟨ret_i ?_, Dr.refl _⟩
    rw [HP.out.2.2.2, ← HP.out.1]
    have hq : mostN ≤ (hi * 18446744073709551616 + lo) / z := by
      rw [Nat.le_div_iff_mul_le HP.out.2.2.1]
      have h1 := HL.out
      have h2 := HX.out
      unfold mostN; omega
    rw [Nat.min_eq_right hq]
    rfl

/-! What is built on it. -/
theorem int_any (n : Int) (w : World) (hn : -9223372036854775808 ≤ n ∧ n ≤ 9223372036854775807) :
    Calls Tryz.prog 42 #[.int .i64 n] w fun e w' => e = .returned (.int .i64 (clampI (n * 1000000))) ∧ Dr w w' := by
  go_enter Tryz.func42, Tryz.ntmps42
  go_wp2_with (go_at_call 57; (with_reducible refine (ratio_any n 1000000 1 _ hn (by unfold OkN; omega) (by unfold OkN; omega) (by decide)).mono ?_); rintro e w' ⟨rfl, hw⟩)
  go_ret
  refine ⟨ret_i ?_, hw⟩
  unfold ratioI sgnI sg3 clampI mostN
  simp only [show ¬ ((1000000 : Int) < 0) by decide, show ¬ ((1 : Int) < 0) by decide, decide_false]
  by_cases hneg : n < 0
  · simp only [hneg, decide_true]; simp; omega
  · simp only [hneg, decide_false]; simp; omega
def mulI (a b : Int) : Int := ratioI a b 1000000
def divI (a b : Int) : Int := ratioI a 1000000 b
theorem ratio_ok (a b c : Int) : OkN (ratioI a b c) := by
  unfold OkN ratioI sgnI mostN
  generalize a.natAbs * b.natAbs / c.natAbs = q
  split <;> omega
end Go.Proofs.YtipcanbeegladaaGreatDoor
