/-
  THE WALK of scribelaw05.NumReckons: it returns true, and nothing that was there is written.
-/
import Derived.Test.YtknnaloepkonlaaDoorRef5A
import Derived.Test.YtknnaloepkonlaaDoorRef5D
namespace Go.Proofs.YtknnaloepkonlaaDoor
open Go.RowKit

theorem bounds_i64 {n : Int} (h : (Lit.int .i64 n).wf = true) : -9223372036854775808 ≤ n ∧ n ≤ 9223372036854775807 := by
  simpa [Lit.wf, IntKind.min, IntKind.max, IntKind.bits, IntKind.signed] using h
set_option maxHeartbeats 4000000 in
set_option maxRecDepth 100000 in
theorem numreckons_walk (a b n : Int) (_w0 : (Lit.int .i64 a).wf = true) (_w1 : (Lit.int .i64 b).wf = true) (w2 : (Lit.int .i64 n).wf = true) (w : World) (G : Gl w) :
    Calls Tryd.prog 3 #[.int .i64 a, .int .i64 b, .int .i64 n] w fun e w' => e = .returned (.bool true) ∧ Below w.heap.size w w' := by
  have HG := Lib.hid G
  clear G
  have AW := Lib.hid fun W => awake_any W
  have hn := bounds_i64 w2
  by_cases ha : OkN a
  · by_cases hb : OkN b
    · have fa := Lib.hid fun W => fit_yes a W ha
      have fb := Lib.hid fun W => fit_yes b W hb
      have hnb : OkN (-b) := by unfold OkN at *; omega
      have c1 := Lib.hid fun W => add_any a b W ha hb
      have c2 := Lib.hid fun W => radd_any a b W ha hb
      have c3 := fun W => sub_any a b W ha hb
      have c4 := Lib.hid fun W => radd_any a (-b) W ha hnb
      rw [Int.sub_eq_add_neg] at c3
      have c3 := Lib.hid c3
      have c5 := Lib.hid fun W => mul_any a b W ha hb
      have c6 := Lib.hid fun W => rmul_any a b W ha hb
      have c7 := Lib.hid fun W => int_any n W (by omega)
      have c8 := Lib.hid fun W => rwhole_any n W (by omega)
      have c9 := Lib.hid fun W => whole_any a W ha
      have hab : -4611686018427387903 ≤ a ∧ a ≤ 4611686018427387903 := ha
      have hbb : -4611686018427387903 ≤ b ∧ b ≤ 4611686018427387903 := hb
      by_cases h0 : b = 0
      · subst h0
        rw [show a + -0 = a + 0 from by omega] at c3
        clear c4
        generalize clampI (a + 0) = s1 at *
        generalize mulI a 0 = s3 at *
        generalize clampI (n * 1000000) = s4 at *
        have d1 := Lib.hid fun W => div_zero a W
        have d2 := Lib.hid fun W => mod_zero a W
        go_enter Tryd.func3, Tryd.ntmps3
        go_wp2_with (first
          | ((with_reducible refine (fa.out _).mono ?_); rintro e w' ⟨rfl, rfl⟩)
          | ((with_reducible refine (fb.out _).mono ?_); rintro e w' ⟨rfl, rfl⟩))
        refine (AW.out _ HG.out).mono ?_
        rintro e w1 ⟨rfl, hb1⟩
        have HB1 := Lib.hid hb1
        clear hb1
        go_wp2_with (first
          | ((with_reducible refine (c1.out _).mono ?_); rintro e w' ⟨rfl, rfl⟩)
          | ((with_reducible refine (c2.out _).mono ?_); rintro e w' ⟨rfl, rfl⟩)
          | ((with_reducible refine (c3.out _).mono ?_); rintro e w' ⟨rfl, rfl⟩))
        refine (c5.out _).mono ?_
        rintro e w5 ⟨rfl, hb5⟩
        have HB5 := Lib.hid (HB1.out.trans (hb5.below.mono HB1.out.size))
        clear hb5 HB1
        go_wp2_with fail
        refine (c6.out _).mono ?_
        rintro e w6 ⟨rfl, hb6⟩
        have HB6 := Lib.hid (HB5.out.trans (hb6.mono HB5.out.size))
        clear hb6 HB5
        go_wp2_with fail
        refine (c7.out _).mono ?_
        rintro e w7 ⟨rfl, hb7⟩
        have HB7 := Lib.hid (HB6.out.trans (hb7.below.mono HB6.out.size))
        clear hb7 HB6
        go_wp2_with ((with_reducible refine (c8.out _).mono ?_); rintro e w' ⟨rfl, rfl⟩)
        refine (d1.out _).mono ?_
        rintro e w8 ⟨rfl, rfl⟩
        go_wp2_with ((with_reducible refine (d2.out _).mono ?_); rintro e w' ⟨rfl, rfl⟩)
        go_ret
        exact ⟨rfl, HB7.out⟩
      · generalize clampI (a + b) = s1 at *
        generalize clampI (a + -b) = s2 at *
        generalize mulI a b = s3 at *
        generalize clampI (n * 1000000) = s4 at *
        have d1 := Lib.hid fun W => div_any a b W ha hb h0
        have d2 := fun W => mod_any a b W h0
        have d3 := Lib.hid fun W => rdiv_any a b W ha hb h0
        have hb0 : (b == 0) = false := by simpa using h0
        have hmm : (a.tmod b).natAbs ≤ a.natAbs := by rw [Int.natAbs_tmod]; exact Nat.mod_le _ _
        have hqq : (a.tdiv b).natAbs ≤ a.natAbs := by rw [Int.natAbs_tdiv]; exact Nat.div_le_self _ _
        have hsum : a.tdiv b * b = a - a.tmod b := by have := Int.tmod_add_mul_tdiv a b; rw [Int.mul_comm]; omega
        obtain ⟨m, hm⟩ : ∃ m, a.tmod b = m := ⟨_, rfl⟩
        obtain ⟨q, hq⟩ : ∃ q, a.tdiv b = q := ⟨_, rfl⟩
        obtain ⟨p, hp⟩ : ∃ p, q * b = p := ⟨_, rfl⟩
        obtain ⟨t, ht⟩ : ∃ t, a.tdiv 1000000 = t := ⟨_, rfl⟩
        have htb : t.natAbs ≤ a.natAbs := by rw [← ht, Int.natAbs_tdiv]; exact Nat.div_le_self _ _
        rw [hq, hm, hp] at hsum
        rw [hm] at d2 hmm
        rw [hq] at hqq
        rw [ht] at c9
        have hmp : a - p = m := by omega
        have hpb : -9223372036854775808 ≤ p ∧ p ≤ 9223372036854775807 := by omega
        have hqb : -4611686018427387903 ≤ q ∧ q ≤ 4611686018427387903 := by omega
        have htb2 : -4611686018427387903 ≤ t ∧ t ≤ 4611686018427387903 := by omega
        have d2 := Lib.hid d2
        have HH := Lib.hid (And.intro hsum (And.intro hmm hqq))
        clear hsum hmm hqq hm htb
        generalize divI a b = s5 at *
        go_enter Tryd.func3, Tryd.ntmps3
        go_wp2_with (first
          | ((with_reducible refine (fa.out _).mono ?_); rintro e w' ⟨rfl, rfl⟩)
          | ((with_reducible refine (fb.out _).mono ?_); rintro e w' ⟨rfl, rfl⟩))
        refine (AW.out _ HG.out).mono ?_
        rintro e w1 ⟨rfl, hb1⟩
        have HB1 := Lib.hid hb1
        clear hb1
        go_wp2_with (first
          | ((with_reducible refine (c1.out _).mono ?_); rintro e w' ⟨rfl, rfl⟩)
          | ((with_reducible refine (c2.out _).mono ?_); rintro e w' ⟨rfl, rfl⟩)
          | ((with_reducible refine (c3.out _).mono ?_); rintro e w' ⟨rfl, rfl⟩)
          | ((with_reducible refine (c4.out _).mono ?_); rintro e w' ⟨rfl, rfl⟩))
        refine (c5.out _).mono ?_
        rintro e w5 ⟨rfl, hb5⟩
        have HB5 := Lib.hid (HB1.out.trans (hb5.below.mono HB1.out.size))
        clear hb5 HB1
        go_wp2_with fail
        refine (c6.out _).mono ?_
        rintro e w6 ⟨rfl, hb6⟩
        have HB6 := Lib.hid (HB5.out.trans (hb6.mono HB5.out.size))
        clear hb6 HB5
        go_wp2_with fail
        refine (c7.out _).mono ?_
        rintro e w7 ⟨rfl, hb7⟩
        have HB7 := Lib.hid (HB6.out.trans (hb7.below.mono HB6.out.size))
        clear hb7 HB6
        go_wp2_with ((with_reducible refine (c8.out _).mono ?_); rintro e w' ⟨rfl, rfl⟩)
        refine (d1.out _).mono ?_
        rintro e w8 ⟨rfl, hb8⟩
        have HB8 := Lib.hid (HB7.out.trans (hb8.below.mono HB7.out.size))
        clear hb8 HB7
        go_wp2_with ((with_reducible refine (d2.out _).mono ?_); rintro e w' ⟨rfl, rfl⟩)
        refine (d3.out _).mono ?_
        rintro e w9 ⟨rfl, hb9⟩
        have HB9 := Lib.hid (HB8.out.trans (hb9.mono HB8.out.size))
        clear hb9 HB8
        have hE : wrap64 (a - wrap64 (wrap64 (a.tdiv b) * b)) = m := by
          have e1 : wrap64 q = q := by unfold wrap64; omega
          have e2 : wrap64 p = p := by unfold wrap64; omega
          rw [hq, e1, hp, e2, hmp]
          have := HH.out.2.1
          unfold wrap64; unfold OkN at ha; omega
        have HT := Lib.hid ht
        clear hq hp hmp ht
        go_wp2_with ((with_reducible refine (c9.out _).mono ?_); rintro e w' ⟨rfl, rfl⟩)
        go_ret
        refine ⟨?_, HB9.out⟩
        show Ending.returned (Value.bool (t == a.tdiv 1000000)) = _
        rw [HT.out, beq_self_eq_true]
    · have fa := Lib.hid fun W => fit_yes a W ha
      have fb := Lib.hid fun W => fit_no b W hb
      go_enter Tryd.func3, Tryd.ntmps3
      go_wp2_with (first
        | ((with_reducible refine (fa.out _).mono ?_); rintro e w' ⟨rfl, rfl⟩)
        | ((with_reducible refine (fb.out _).mono ?_); rintro e w' ⟨rfl, rfl⟩))
      refine (AW.out _ HG.out).mono ?_
      rintro e w1 ⟨rfl, hb1⟩
      go_wp2_with fail
      go_ret
      exact ⟨rfl, hb1⟩
  · have fa := Lib.hid fun W => fit_no a W ha
    go_enter Tryd.func3, Tryd.ntmps3
    go_wp2_with ((with_reducible refine (fa.out _).mono ?_); rintro e w' ⟨rfl, rfl⟩)
    refine (AW.out _ HG.out).mono ?_
    rintro e w1 ⟨rfl, hb1⟩
    go_wp2_with fail
    go_ret
    exact ⟨rfl, hb1⟩
end Go.Proofs.YtknnaloepkonlaaDoor
