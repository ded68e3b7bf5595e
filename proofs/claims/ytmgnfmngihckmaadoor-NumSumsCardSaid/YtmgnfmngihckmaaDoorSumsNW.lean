/-
  THE WALK of scribelaw05.NumSums: it returns true, and nothing that was there is written.
-/
import Derived.Test.YtmgnfmngihckmaaDoorNumW4
namespace Go.Proofs.YtmgnfmngihckmaaDoor
open Go.RowKit

theorem clamp_neg (x : Int) : clampI (-x) = -clampI x := by unfold clampI; omega
set_option maxHeartbeats 2000000 in
theorem numsums_walk (a b : Int) (_w0 : (Lit.int .i64 a).wf = true) (_w1 : (Lit.int .i64 b).wf = true) (w : World) (G : Gl w) :
    Calls Tryd.prog 6 #[.int .i64 a, .int .i64 b] w fun e w' => e = .returned (.bool true) ∧ Below w.heap.size w w' := by
  have HG := Lib.hid G
  clear G
  have AW := Lib.hid fun W => awake_any W
  by_cases ha : OkN a
  · by_cases hb : OkN b
    · have fa := Lib.hid fun W => fit_yes a W ha
      have fb := Lib.hid fun W => fit_yes b W hb
      obtain ⟨c, hc⟩ : ∃ c, clampI (a + b) = c := ⟨_, rfl⟩
      have hcok : OkN c := by rw [← hc]; exact clamp_ok _
      obtain ⟨d, hd⟩ : ∃ d, clampI (a - b) = d := ⟨_, rfl⟩
      have hdok : OkN d := by rw [← hd]; exact clamp_ok _
      have hd2 : clampI (b - a) = -d := by rw [← hd, ← clamp_neg]; congr 1; omega
      have c1 := Lib.hid fun W => add_any a b W ha hb
      have c2 := Lib.hid fun W => add_any b a W hb ha
      have c3 := Lib.hid fun W => sub_any a b W ha hb
      have c4 := Lib.hid fun W => sub_any b a W hb ha
      have c5 := Lib.hid fun W => add_any a 0 W ha (by unfold OkN; omega)
      have c6 := Lib.hid fun W => sub_any a a W ha ha
      have c7 := Lib.hid fun W => sub_any c b W hcok hb
      have hab : b + a = a + b := by omega
      rw [hc] at c1
      rw [hab, hc] at c2
      rw [hd] at c3
      rw [hd2] at c4
      rw [show a + 0 = a by omega, clamp_id ha] at c5
      rw [show a - a = 0 by omega, show clampI 0 = 0 from rfl] at c6
      have h7 : c = 4611686018427387903 ∨ c = -4611686018427387903 ∨ clampI (c - b) = a := by
        unfold OkN at *; unfold clampI at *; omega
      have dd : - -d = d := by omega
      unfold OkN at hdok
      clear hab hc hd hd2
      by_cases h1 : c = 4611686018427387903
      all_goals by_cases h2 : c = -4611686018427387903
      all_goals by_cases h3 : clampI (c - b) = a
      all_goals first | (exfalso; omega) | skip
      all_goals
        clear h7
        try rw [h3] at c7
        go_enter Tryd.func6, Tryd.ntmps6
        go_wp2_with (first
          | ((with_reducible refine (fa.out _).mono ?_); rintro e w' ⟨rfl, rfl⟩)
          | ((with_reducible refine (fb.out _).mono ?_); rintro e w' ⟨rfl, rfl⟩)
          | ((with_reducible refine (c1.out _).mono ?_); rintro e w' ⟨rfl, rfl⟩)
          | ((with_reducible refine (c2.out _).mono ?_); rintro e w' ⟨rfl, rfl⟩)
          | ((with_reducible refine (c3.out _).mono ?_); rintro e w' ⟨rfl, rfl⟩)
          | ((with_reducible refine (c4.out _).mono ?_); rintro e w' ⟨rfl, rfl⟩)
          | ((with_reducible refine (c5.out _).mono ?_); rintro e w' ⟨rfl, rfl⟩)
          | ((with_reducible refine (c6.out _).mono ?_); rintro e w' ⟨rfl, rfl⟩))
        refine (AW.out _ HG.out).mono ?_
        rintro e w1 ⟨rfl, hb1⟩
        have HB1 := Lib.hid hb1
        clear hb1
        go_wp2_with ((with_reducible refine (c7.out _).mono ?_); rintro e w' ⟨rfl, rfl⟩)
        go_ret
        exact ⟨rfl, HB1.out⟩
    · have fa := Lib.hid fun W => fit_yes a W ha
      have fb := Lib.hid fun W => fit_no b W hb
      go_enter Tryd.func6, Tryd.ntmps6
      go_wp2_with (first
        | ((with_reducible refine (fa.out _).mono ?_); rintro e w' ⟨rfl, rfl⟩)
        | ((with_reducible refine (fb.out _).mono ?_); rintro e w' ⟨rfl, rfl⟩))
      refine (AW.out _ HG.out).mono ?_
      rintro e w1 ⟨rfl, hb1⟩
      go_wp2_with fail
      go_ret
      exact ⟨rfl, hb1⟩
  · have fa := Lib.hid fun W => fit_no a W ha
    go_enter Tryd.func6, Tryd.ntmps6
    go_wp2_with ((with_reducible refine (fa.out _).mono ?_); rintro e w' ⟨rfl, rfl⟩)
    refine (AW.out _ HG.out).mono ?_
    rintro e w1 ⟨rfl, hb1⟩
    go_wp2_with fail
    go_ret
    exact ⟨rfl, hb1⟩
end Go.Proofs.YtmgnfmngihckmaaDoor
