/-
  THE WALK of scribelaw05.NumParts: it returns true, and nothing that was there is written.
-/
import Derived.Test.YtmgnfmngihckmaaDoorProdNW
namespace Go.Proofs.YtmgnfmngihckmaaDoor
open Go.RowKit

def absI (a : Int) : Int := if a < 0 then -a else a
theorem lsize_any (a : Int) (w : World) (ha : OkN a) :
    Calls Tryd.prog 32 #[.int .i64 a] w fun e w' => e = .returned (.int .i64 (absI a)) ∧ w = w' := by
  unfold OkN at ha
  unfold absI
  by_cases h : a < 0
  all_goals
    go_enter Tryd.func32, Tryd.ntmps32
    go_wp2
    go_ret
    exact ⟨ret_i (by simp), rfl⟩
theorem tmod_facts (a b : Int) (h0 : b ≠ 0) : (a.tmod b ≠ 0 → decide (a.tmod b < 0) = decide (a < 0)) ∧ (a.tmod b < 0 → -(a.tmod b) < absI b) ∧ (0 < a.tmod b → a.tmod b < absI b) ∧ (a - a.tmod b).tmod b = 0 := by
  have hlt : (a.tmod b).natAbs < b.natAbs := by
    rw [Int.natAbs_tmod]; exact Nat.mod_lt _ (by omega)
  have hab : absI b = (b.natAbs : Int) := by unfold absI; split <;> omega
  have hsg : 0 ≤ a → 0 ≤ a.tmod b := fun h => Int.tmod_nonneg _ h
  have hsg2 : a < 0 → a.tmod b ≤ 0 := fun h => by
    have := Int.tmod_nonneg (a := -a) b (by omega)
    rw [Int.neg_tmod] at this; omega
  refine ⟨fun h => ?_, fun h => by rw [hab]; omega, fun h => by rw [hab]; omega, ?_⟩
  · by_cases ha : a < 0
    · have := hsg2 ha
      rw [decide_eq_true ha, decide_eq_true (by omega)]
    · have := hsg (by omega)
      rw [decide_eq_false ha, decide_eq_false (by omega)]
  · have := Int.mul_tdiv_add_tmod a b
    have e : a - a.tmod b = b * (a.tdiv b) := by omega
    rw [e]; exact Int.mul_tmod_right _ _
theorem div_one_more (a : Int) (ha : OkN a) (h0 : 0 ≤ a) (d : Int) (hd : clampI (a + 1) = d) : 0 ≤ divI a d ∧ divI a d ≤ 1000000 := by
  have hd1 : a ≤ d ∧ 0 < d := by unfold OkN at ha; unfold clampI at hd; omega
  unfold divI ratioI sgnI sg3 mostN
  rw [show (1000000 : Int).natAbs = 1000000 from rfl]
  have hq : a.natAbs * 1000000 / d.natAbs ≤ 1000000 := by
    refine Nat.div_le_of_le_mul ?_
    exact Nat.mul_le_mul_right _ (by omega)
  simp only [show ¬ (a < 0) by omega, show ¬ ((1000000 : Int) < 0) by decide, show ¬ (d < 0) by omega, decide_false]
  generalize a.natAbs * 1000000 / d.natAbs = q at *
  simp; omega
set_option maxHeartbeats 4000000 in
/-- The walk where both are numbers, b isn't 0, all being named. -/
theorem numparts_in (a b m d q f s : Int) (w : World) (HG : Hid (Gl w)) (AW : Hid (∀ W, Gl W → Calls Tryd.prog 13 #[] W fun e w' => e = .returned (.bool true) ∧ Below W.heap.size W w'))
    (fa : Hid (∀ W, Calls Tryd.prog 12 #[.int .i64 a] W fun e w' => e = .returned (.bool true) ∧ W = w')) (fb : Hid (∀ W, Calls Tryd.prog 12 #[.int .i64 b] W fun e w' => e = .returned (.bool true) ∧ W = w'))
    (c1 : Hid (∀ W, Calls Tryd.prog 22 #[.int .i64 a, .int .i64 b] W fun e w' => e = .returned (.tuple #[.int .i64 m, .int .i64 0]) ∧ W = w'))
    (c2 : Hid (∀ W, Calls Tryd.prog 14 #[.int .i64 a, .int .i64 1] W fun e w' => e = .returned (.int .i64 d) ∧ W = w'))
    (c3 : Hid (∀ W, Calls Tryd.prog 21 #[.int .i64 a, .int .i64 d] W fun e w' => e = .returned (.tuple #[.int .i64 q, .int .i64 f]) ∧ Below W.heap.size W w'))
    (c4 : Hid (∀ W, Calls Tryd.prog 32 #[.int .i64 b] W fun e w' => e = .returned (.int .i64 s) ∧ W = w'))
    (hb0 : (b == 0) = false) (ham : -4611686018427387903 ≤ a ∧ a ≤ 4611686018427387903) (hm : -4611686018427387903 ≤ m ∧ m ≤ 4611686018427387903)
    (h1 : m ≠ 0 → (m < 0 ↔ a < 0)) (h2 : m < 0 → -m < s) (h3 : 0 < m → m < s) (h4 : a = -1 → f = 16) (h5 : 0 ≤ a → 0 ≤ q ∧ q ≤ 1000000) (h6 : (a - m).tmod b = 0) :
    Calls Tryd.prog 7 #[.int .i64 a, .int .i64 b] w fun e w' => e = .returned (.bool true) ∧ Below w.heap.size w w' := by
  have hw : IntKind.i64.wrap (a - m) = a - m := IntWalk.i64_in _ (by omega)
  have hcase : (m < 0 ∧ a < 0) ∨ (m = 0 ∧ a < 0) ∨ (m = 0 ∧ 0 ≤ a) ∨ (0 < m ∧ 0 ≤ a) := by omega
  have hb0' : ¬ b = 0 := by simpa using hb0
  have H1 := Lib.hid h1
  have HT := Lib.hid h6
  clear h1
  rcases hcase with ⟨hm1, ha1⟩ | ⟨hm1, ha1⟩ | ⟨hm1, ha1⟩ | ⟨hm1, ha1⟩
  all_goals try (have h2' := h2 hm1)
  all_goals try (have h3' := h3 hm1)
  all_goals try (have h5' := h5 ha1)
  all_goals try (subst hm1)
  all_goals clear h2 h3 h5
  all_goals by_cases hneg : a = -1
  all_goals first | (exfalso; omega) | skip
  all_goals try (have h4' := h4 hneg; subst h4'; subst hneg)
  all_goals try clear h4
  all_goals
    go_enter Tryd.func7, Tryd.ntmps7
    go_wp2_with (first
      | ((with_reducible refine (fa.out _).mono ?_); rintro e w' ⟨rfl, rfl⟩)
      | ((with_reducible refine (fb.out _).mono ?_); rintro e w' ⟨rfl, rfl⟩)
      | ((with_reducible refine (c1.out _).mono ?_); rintro e w' ⟨rfl, rfl⟩)
      | ((with_reducible refine (c2.out _).mono ?_); rintro e w' ⟨rfl, rfl⟩))
    refine (c3.out _).mono ?_
    rintro e w1 ⟨rfl, hb1⟩
    have HB1 := Lib.hid hb1
    clear hb1
    go_wp2_with ((with_reducible refine (c4.out _).mono ?_); rintro e w' ⟨rfl, rfl⟩)
    refine (AW.out _ (HG.out.next HB1.out)).mono ?_
    rintro e w2 ⟨rfl, hb2⟩
    have HB2 := Lib.hid (HB1.out.trans (hb2.mono HB1.out.size))
    clear hb2 HB1
    go_wp2_with fail
    go_ret
    first
      | exact ⟨rfl, HB2.out⟩
      | exact ⟨ret_b (by have h := HT.out; simpa using h), HB2.out⟩
      | exact ⟨ret_b (by have h := HT.out; rw [Int.sub_zero, Int.tmod_eq_emod_of_nonneg ha1] at h; simpa using h), HB2.out⟩
      | exact ⟨ret_b (by have h := HT.out; rw [Int.sub_zero, Int.neg_tmod, Int.tmod_eq_emod_of_nonneg (by decide)] at h; simpa using h), HB2.out⟩
set_option maxHeartbeats 2000000 in
theorem numparts_walk (a b : Int) (_w0 : (Lit.int .i64 a).wf = true) (_w1 : (Lit.int .i64 b).wf = true) (w : World) (G : Gl w) :
    Calls Tryd.prog 7 #[.int .i64 a, .int .i64 b] w fun e w' => e = .returned (.bool true) ∧ Below w.heap.size w w' := by
  have HG := Lib.hid G
  clear G
  have AW := Lib.hid fun W => awake_any W
  by_cases ha : OkN a
  · by_cases hb : OkN b
    · have fa := Lib.hid fun W => fit_yes a W ha
      have fb := Lib.hid fun W => fit_yes b W hb
      by_cases hb0 : b = 0
      · subst hb0
        go_enter Tryd.func7, Tryd.ntmps7
        go_wp2_with (first
          | ((with_reducible refine (fa.out _).mono ?_); rintro e w' ⟨rfl, rfl⟩)
          | ((with_reducible refine (fb.out _).mono ?_); rintro e w' ⟨rfl, rfl⟩))
        refine (AW.out _ HG.out).mono ?_
        rintro e w1 ⟨rfl, hb1⟩
        go_wp2_with fail
        go_ret
        exact ⟨rfl, hb1⟩
      · have tf := tmod_facts a b hb0
        have hmb : OkN (a.tmod b) := by
          have h1 := tf.2.1; have h2 := tf.2.2.1
          have : absI b ≤ 4611686018427387903 := by unfold OkN at hb; unfold absI; split <;> omega
          unfold OkN; omega
        have c2 := fun W => add_any a 1 W ha (by unfold OkN; omega)
        obtain ⟨d, hd⟩ : ∃ d, clampI (a + 1) = d := ⟨_, rfl⟩
        have hdo : OkN d := by rw [← hd]; exact clamp_ok _
        rw [hd] at c2
        by_cases hd0 : d = 0
        · subst hd0
          have ha1 : a = -1 := by unfold OkN at ha; unfold clampI at hd; omega
          refine numparts_in a b (a.tmod b) 0 0 16 (absI b) w HG AW fa fb (Lib.hid fun W => mod_any a b W hb0) (Lib.hid c2) (Lib.hid fun W => (div_zero a W).mono fun _ _ ⟨h1, h2⟩ => ⟨h1, h2 ▸ Below.refl _ _⟩) (Lib.hid fun W => lsize_any b W hb) (by simpa using hb0) ha hmb (fun h => by have := tf.1 h; simpa using this) tf.2.1 tf.2.2.1 (fun _ => rfl) (fun _ => by omega) tf.2.2.2
        · refine numparts_in a b (a.tmod b) d (divI a d) 0 (absI b) w HG AW fa fb (Lib.hid fun W => mod_any a b W hb0) (Lib.hid c2) (Lib.hid fun W => (div_any a d W ha hdo hd0).mono fun _ _ ⟨h1, h2⟩ => ⟨h1, h2.below⟩) (Lib.hid fun W => lsize_any b W hb) (by simpa using hb0) ha hmb (fun h => by have := tf.1 h; simpa using this) tf.2.1 tf.2.2.1 (fun h => by subst h; exact absurd hd.symm hd0) (fun h => div_one_more a ha h d hd) tf.2.2.2
    · have fa := Lib.hid fun W => fit_yes a W ha
      have fb := Lib.hid fun W => fit_no b W hb
      go_enter Tryd.func7, Tryd.ntmps7
      go_wp2_with (first
        | ((with_reducible refine (fa.out _).mono ?_); rintro e w' ⟨rfl, rfl⟩)
        | ((with_reducible refine (fb.out _).mono ?_); rintro e w' ⟨rfl, rfl⟩))
      refine (AW.out _ HG.out).mono ?_
      rintro e w1 ⟨rfl, hb1⟩
      go_wp2_with fail
      go_ret
      exact ⟨rfl, hb1⟩
  · have fa := Lib.hid fun W => fit_no a W ha
    go_enter Tryd.func7, Tryd.ntmps7
    go_wp2_with ((with_reducible refine (fa.out _).mono ?_); rintro e w' ⟨rfl, rfl⟩)
    refine (AW.out _ HG.out).mono ?_
    rintro e w1 ⟨rfl, hb1⟩
    go_wp2_with fail
    go_ret
    exact ⟨rfl, hb1⟩
end Go.Proofs.YtmgnfmngihckmaaDoor
