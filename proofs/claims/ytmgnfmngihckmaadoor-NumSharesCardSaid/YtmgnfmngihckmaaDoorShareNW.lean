/-
  THE WALKS of scribelaw05.NumShares and NumBack: each returns true, and nothing that was there is written.
-/
import Derived.Test.YtmgnfmngihckmaaDoorPartsNW
namespace Go.Proofs.YtmgnfmngihckmaaDoor
open Go.RowKit

theorem share_facts (a : Int) (n : Nat) (ha : OkN a) (h1 : 1 ≤ n) (h2 : n ≤ 1000) (q b d : Int) (hq : divI a ((n : Int) * 1000000) = q) (hb : mulI q ((n : Int) * 1000000) = b) (hd : clampI (a - b) = d) :
    absI d < (n : Int) + 1 ∧ (d ≠ 0 → (d < 0 ↔ a < 0)) ∧ absI q ≤ absI a := by
  unfold OkN at ha
  obtain ⟨x, hx⟩ : ∃ x, a.natAbs = x := ⟨_, rfl⟩
  have hxm : x ≤ mostN := by unfold mostN; omega
  have hk : ((n : Int) * 1000000).natAbs = n * 1000000 := by omega
  have hkn : ¬ ((n : Int) * 1000000 < 0) := by omega
  have hxq : x * 1000000 / (n * 1000000) = x / n := Nat.mul_div_mul_right _ _ (by decide)
  have hdm := Nat.div_add_mod x n
  have hml := Nat.mod_lt x (show n > 0 by omega)
  have hql : x / n ≤ x := Nat.div_le_self _ _
  have hq1 : q = sgnI (decide (a < 0)) (x / n) := by
    rw [← hq]
    unfold divI ratioI sg3
    rw [hx, hk, show (1000000 : Int).natAbs = 1000000 from rfl, hxq, Nat.min_eq_left (by omega), decide_eq_false hkn, decide_eq_false (show ¬ ((1000000 : Int) < 0) by decide)]
    by_cases h : a < 0 <;> simp [h]
  have hqa : q.natAbs = x / n := by
    rw [hq1]; unfold sgnI
    generalize x / n = z
    split <;> omega
  have hmx : x / n * n ≤ x := Nat.div_mul_le_self _ _
  have hb1 : b = sgnI (decide (a < 0)) (x / n * n) := by
    rw [← hb]
    unfold mulI ratioI sg3
    rw [hqa, hk, show (1000000 : Int).natAbs = 1000000 from rfl, ← Nat.mul_assoc, Nat.mul_div_cancel _ (by decide), Nat.min_eq_left (by omega), decide_eq_false hkn, decide_eq_false (show ¬ ((1000000 : Int) < 0) by decide)]
    by_cases h0 : x / n = 0
    · rw [h0, Nat.zero_mul]; unfold sgnI; simp
    · have : decide (q < 0) = decide (a < 0) := by
        rw [hq1]; unfold sgnI
        by_cases h : a < 0
        · simp [h]; omega
        · simp [h]; omega
      rw [this]
      by_cases h : a < 0 <;> simp [h]
  have hr : x - x / n * n = x % n := by rw [Nat.mul_comm] at hdm; omega
  have hd1 : d = sgnI (decide (a < 0)) (x % n) := by
    rw [← hd, hb1, ← hr]
    generalize x / n * n = p at *
    unfold sgnI clampI
    by_cases h : a < 0
    · simp [h]; omega
    · simp [h]; omega
  have hda : absI d = (x % n : Nat) := by
    rw [hd1]; unfold sgnI absI
    generalize x % n = r
    by_cases h : a < 0
    · simp [h]; omega
    · simp [h]; omega
  refine ⟨by rw [hda]; omega, fun h => ?_, ?_⟩
  · rw [hd1] at h ⊢
    generalize x % n = r at *
    unfold sgnI at *
    by_cases h' : a < 0
    · simp [h'] at h ⊢; omega
    · simp [h'] at h ⊢
  · have : absI q = (q.natAbs : Int) := by unfold absI; split <;> omega
    rw [this, hqa]
    have : absI a = (x : Int) := by unfold absI; split <;> omega
    rw [this]; omega
theorem absI_neg (d : Int) (h : d < 0) : absI d = -d := by unfold absI; rw [if_pos h]
set_option maxHeartbeats 4000000 in
theorem numshares_walk (a n : Int) (_w0 : (Lit.int .i64 a).wf = true) (_w1 : (Lit.int .i64 n).wf = true) (w : World) (G : Gl w) :
    Calls Tryd.prog 11 #[.int .i64 a, .int .i64 n] w fun e w' => e = .returned (.bool true) ∧ Below w.heap.size w w' := by
  have HG := Lib.hid G
  clear G
  have AW := Lib.hid fun W => awake_any W
  by_cases ha : OkN a
  · have fa := Lib.hid fun W => fit_yes a W ha
    by_cases h1 : n < 1
    · go_enter Tryd.func11, Tryd.ntmps11
      go_wp2_with ((with_reducible refine (fa.out _).mono ?_); rintro e w' ⟨rfl, rfl⟩)
      refine (AW.out _ HG.out).mono ?_
      rintro e w1 ⟨rfl, hb1⟩
      go_wp2_with fail
      go_ret
      exact ⟨rfl, hb1⟩
    · by_cases h2 : 1000 < n
      · go_enter Tryd.func11, Tryd.ntmps11
        go_wp2_with ((with_reducible refine (fa.out _).mono ?_); rintro e w' ⟨rfl, rfl⟩)
        refine (AW.out _ HG.out).mono ?_
        rintro e w1 ⟨rfl, hb1⟩
        go_wp2_with fail
        go_ret
        exact ⟨rfl, hb1⟩
      · obtain ⟨m, rfl⟩ : ∃ m : Nat, n = m := ⟨n.toNat, by omega⟩
        obtain ⟨k, hk⟩ : ∃ k, (m : Int) * 1000000 = k := ⟨_, rfl⟩
        have hkb : 1000000 ≤ k ∧ k ≤ 1000000000 := by omega
        have hko : OkN k := by unfold OkN; omega
        have hkw : IntKind.i64.wrap k = k := IntWalk.i64_in _ (by omega)
        have c1 := fun W => div_any a k W ha hko (by omega)
        obtain ⟨q, hq⟩ : ∃ q, divI a k = q := ⟨_, rfl⟩
        have hqo : OkN q := by rw [← hq]; exact ratio_ok _ _ _
        have c2 := fun W => mul_any q k W hqo hko
        obtain ⟨b, hb⟩ : ∃ b, mulI q k = b := ⟨_, rfl⟩
        have hbo : OkN b := by rw [← hb]; exact ratio_ok _ _ _
        have c3 := fun W => sub_any a b W ha hbo
        obtain ⟨d, hd⟩ : ∃ d, clampI (a - b) = d := ⟨_, rfl⟩
        have hdo : OkN d := by rw [← hd]; exact clamp_ok _
        have sf := share_facts a m ha (by omega) (by omega) q b d (by rw [hk]; exact hq) (by rw [hk]; exact hb) hd
        have s1 := fun W => lsize_any d W hdo
        have s2 := fun W => lsize_any q W hqo
        have s3 := fun W => lsize_any a W ha
        rw [hq] at c1
        rw [hb] at c2
        rw [hd] at c3
        obtain ⟨t1, t2, t3⟩ := sf
        generalize absI d = sd at *
        generalize absI q = sq at *
        generalize absI a = sa at *
        have C1 := Lib.hid c1
        have C2 := Lib.hid c2
        have C3 := Lib.hid c3
        have S1 := Lib.hid s1
        have S2 := Lib.hid s2
        have S3 := Lib.hid s3
        clear c1 c2 c3 s1 s2 s3 hq hb hd
        have hcase : d = 0 ∨ (d < 0 ∧ a < 0) ∨ (0 < d ∧ 0 ≤ a) := by omega
        clear t2
        rcases hcase with rfl | ⟨h01, h02⟩ | ⟨h01, h02⟩
        all_goals
          go_enter Tryd.func11, Tryd.ntmps11
          go_wp2_with ((with_reducible refine (fa.out _).mono ?_); rintro e w' ⟨rfl, rfl⟩)
          refine (C1.out _).mono ?_
          rintro e w1 ⟨rfl, hb1⟩
          have HB1 := Lib.hid hb1.below
          clear hb1
          go_wp2_with fail
          refine (C2.out _).mono ?_
          rintro e w2 ⟨rfl, hb2⟩
          have HB2 := Lib.hid (HB1.out.trans (hb2.below.mono HB1.out.size))
          clear hb2 HB1
          go_wp2_with ((with_reducible refine (C3.out _).mono ?_); rintro e w' ⟨rfl, rfl⟩)
          refine (AW.out _ (HG.out.next HB2.out)).mono ?_
          rintro e w3 ⟨rfl, hb3⟩
          have HB3 := Lib.hid (HB2.out.trans (hb3.mono HB2.out.size))
          clear hb3 HB2
          go_wp2_with (first
            | ((with_reducible refine (S1.out _).mono ?_); rintro e w' ⟨rfl, rfl⟩)
            | ((with_reducible refine (S2.out _).mono ?_); rintro e w' ⟨rfl, rfl⟩)
            | ((with_reducible refine (S3.out _).mono ?_); rintro e w' ⟨rfl, rfl⟩))
          go_ret
          first
            | exact ⟨rfl, HB3.out⟩
            | exact ⟨ret_b (by simp; omega), HB3.out⟩
  · have fa := Lib.hid fun W => fit_no a W ha
    go_enter Tryd.func11, Tryd.ntmps11
    go_wp2_with ((with_reducible refine (fa.out _).mono ?_); rintro e w' ⟨rfl, rfl⟩)
    refine (AW.out _ HG.out).mono ?_
    rintro e w1 ⟨rfl, hb1⟩
    go_wp2_with fail
    go_ret
    exact ⟨rfl, hb1⟩
end Go.Proofs.YtmgnfmngihckmaaDoor
