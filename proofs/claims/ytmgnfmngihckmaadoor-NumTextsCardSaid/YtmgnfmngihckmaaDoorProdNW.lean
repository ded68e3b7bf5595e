/-
  THE WALK of scribelaw05.NumProducts: it returns true, and nothing that was there is written.
-/
import Derived.Test.YtmgnfmngihckmaaDoorNumW4
namespace Go.Proofs.YtmgnfmngihckmaaDoor
open Go.RowKit

theorem ret_b {z : Bool} (h : z = true) : Ending.returned (.bool z) = .returned (.bool true) := by rw [h]
theorem mul_comm' (a b : Int) : mulI b a = mulI a b := by
  unfold mulI ratioI sg3
  rw [Nat.mul_comm, BEq.comm (a := decide (b < 0))]
theorem mul_one' (a : Int) (ha : OkN a) : mulI a 1000000 = a := by
  unfold mulI ratioI sgnI sg3 mostN
  unfold OkN at ha
  rw [show (1000000 : Int).natAbs = 1000000 from rfl, Nat.mul_div_cancel _ (by decide)]
  by_cases h : a < 0
  · simp [h]; omega
  · simp [h]; omega
theorem mul_zero' (a : Int) : mulI a 0 = 0 := by
  unfold mulI ratioI sgnI
  simp [mostN]
theorem mul_neg' (a b : Int) : mulI (-a) b = -mulI a b := by
  by_cases h0 : a = 0
  · subst h0
    have : mulI 0 b = 0 := by rw [mul_comm', mul_zero']
    rw [show (-0 : Int) = 0 from rfl, this]; rfl
  · unfold mulI ratioI sgnI sg3
    rw [Int.natAbs_neg]
    generalize min (a.natAbs * b.natAbs / (1000000 : Int).natAbs) mostN = q
    by_cases h : a < 0
    · have h' : ¬ (-a < 0) := by omega
      rw [decide_eq_true h, decide_eq_false h']
      by_cases hb : b < 0 <;> simp [hb]
    · have h' : -a < 0 := by omega
      rw [decide_eq_false h, decide_eq_true h']
      by_cases hb : b < 0 <;> simp [hb]
theorem mul_sign (a b : Int) (h : ¬ mulI a b ≤ 0) : decide (a < 0) = decide (b < 0) := by
  unfold mulI ratioI sgnI sg3 at h
  generalize min (a.natAbs * b.natAbs / (1000000 : Int).natAbs) mostN = q at h
  by_cases ha : a < 0 <;> by_cases hb : b < 0 <;> simp [ha, hb] at h ⊢
  all_goals omega
set_option maxHeartbeats 2000000 in
theorem numprod_walk (a b : Int) (_w0 : (Lit.int .i64 a).wf = true) (_w1 : (Lit.int .i64 b).wf = true) (w : World) (G : Gl w) :
    Calls Tryd.prog 8 #[.int .i64 a, .int .i64 b] w fun e w' => e = .returned (.bool true) ∧ Below w.heap.size w w' := by
  have HG := Lib.hid G
  clear G
  have AW := Lib.hid fun W => awake_any W
  by_cases ha : OkN a
  · by_cases hb : OkN b
    · have fa := Lib.hid fun W => fit_yes a W ha
      have fb := Lib.hid fun W => fit_yes b W hb
      have hna : OkN (-a) := by unfold OkN at *; omega
      have c1 := Lib.hid fun W => mul_any a b W ha hb
      have c2 := Lib.hid fun W => mul_any b a W hb ha
      have c3 := Lib.hid fun W => mul_any a 1000000 W ha (by unfold OkN; omega)
      have c4 := Lib.hid fun W => mul_any a 0 W ha (by unfold OkN; omega)
      have c5 := Lib.hid fun W => mul_any (-a) b W hna hb
      have hs := mul_sign a b
      have hok : OkN (mulI a b) := ratio_ok _ _ _
      rw [mul_comm'] at c2
      rw [mul_one' a ha] at c3
      rw [mul_zero'] at c4
      rw [mul_neg'] at c5
      generalize mulI a b = c at *
      have hci : -4611686018427387903 ≤ c ∧ c ≤ 4611686018427387903 := hok
      have hai : -4611686018427387903 ≤ a ∧ a ≤ 4611686018427387903 := ha
      by_cases h1 : c ≤ 0
      all_goals by_cases h2 : a < 0
      all_goals by_cases h3 : b < 0
      all_goals first | (exfalso; simp [h1, h2, h3] at hs; done) | skip
      all_goals
        clear hs
        go_enter Tryd.func8, Tryd.ntmps8
        go_wp2_with (first
          | ((with_reducible refine (fa.out _).mono ?_); rintro e w' ⟨rfl, rfl⟩)
          | ((with_reducible refine (fb.out _).mono ?_); rintro e w' ⟨rfl, rfl⟩))
        refine (c1.out _).mono ?_
        rintro e w1 ⟨rfl, hb1⟩
        have HB1 := Lib.hid hb1.below
        clear hb1
        go_wp2_with fail
        refine (AW.out _ (HG.out.next HB1.out)).mono ?_
        rintro e w2 ⟨rfl, hb2⟩
        have HB2 := Lib.hid (HB1.out.trans (hb2.mono HB1.out.size))
        clear hb2 HB1
        go_wp2_with fail
        refine (c2.out _).mono ?_
        rintro e w3 ⟨rfl, hb3⟩
        have HB3 := Lib.hid (HB2.out.trans (hb3.below.mono HB2.out.size))
        clear hb3 HB2
        go_wp2_with fail
        refine (c3.out _).mono ?_
        rintro e w4 ⟨rfl, hb4⟩
        have HB4 := Lib.hid (HB3.out.trans (hb4.below.mono HB3.out.size))
        clear hb4 HB3
        go_wp2_with fail
        refine (c4.out _).mono ?_
        rintro e w5 ⟨rfl, hb5⟩
        have HB5 := Lib.hid (HB4.out.trans (hb5.below.mono HB4.out.size))
        clear hb5 HB4
        go_wp2_with fail
        refine (c5.out _).mono ?_
        rintro e w6 ⟨rfl, hb6⟩
        have HB6 := Lib.hid (HB5.out.trans (hb6.below.mono HB5.out.size))
        clear hb6 HB5
        go_wp2_with fail
        go_ret
        first | exact ⟨rfl, HB6.out⟩ | exact ⟨ret_b (by simp; omega), HB6.out⟩
    · have fa := Lib.hid fun W => fit_yes a W ha
      have fb := Lib.hid fun W => fit_no b W hb
      go_enter Tryd.func8, Tryd.ntmps8
      go_wp2_with (first
        | ((with_reducible refine (fa.out _).mono ?_); rintro e w' ⟨rfl, rfl⟩)
        | ((with_reducible refine (fb.out _).mono ?_); rintro e w' ⟨rfl, rfl⟩))
      refine (AW.out _ HG.out).mono ?_
      rintro e w1 ⟨rfl, hb1⟩
      go_wp2_with fail
      go_ret
      exact ⟨rfl, hb1⟩
  · have fa := Lib.hid fun W => fit_no a W ha
    go_enter Tryd.func8, Tryd.ntmps8
    go_wp2_with ((with_reducible refine (fa.out _).mono ?_); rintro e w' ⟨rfl, rfl⟩)
    refine (AW.out _ HG.out).mono ?_
    rintro e w1 ⟨rfl, hb1⟩
    go_wp2_with fail
    go_ret
    exact ⟨rfl, hb1⟩
end Go.Proofs.YtmgnfmngihckmaaDoor
