/-
  THE WALK of the law DiskFull: whatever the quota and the two texts, it returns true and writes to nothing that was there.
-/
import Derived.Test.YtaoifbdojleenaaDkSm
namespace Go.Proofs.Ytaoifbdojleenaa
open Go.RowKit Go.Maps

set_option maxHeartbeats 8000000 in
set_option maxRecDepth 100000 in
theorem full_walk (q : Int) (a b : ByteArray) (hq : (Lit.int .i64 q).wf = true) (ha : a.size ≤ maxLen) (hb : b.size ≤ maxLen) (w : World) :
    Calls Try.prog 7 #[.int .i64 q, .string a, .string b] w fun e w' => e = .returned (.bool true) ∧ Below w.heap.size w w' := by
  have C1 := Lib.hid (cut_any a 200 w ha (by omega))
  have C2 := Lib.hid (cut_any b 200 w hb (by omega))
  have l1 := cutB_size a 200
  have l2 := cutB_size b 200
  have g := bounds_i64 hq
  generalize cutB a 200 = x at *
  generalize cutB b 200 = y at *
  clear ha hb hq
  by_cases hbad : q < 0 ∨ 500 < q
  · have AW := Lib.hid (awake_any w)
    by_cases h1 : q < 0
    · clear hbad g
      go_enter Try.func7, Try.ntmps7
      go_wp2_with fail
      refine C1.out.mono ?_
      rintro e w1 ⟨rfl, rfl⟩
      go_wp2_with fail
      refine C2.out.mono ?_
      rintro e w1 ⟨rfl, rfl⟩
      go_wp2_with fail
      refine AW.out.mono ?_
      rintro e w1 ⟨rfl, h1⟩
      go_wp2
      go_ret
      exact ⟨rfl, h1⟩
    · have h2 : 500 < q := hbad.resolve_left h1
      have h1' : decide (q < 0) = false := by simpa using h1
      clear hbad g
      go_enter Try.func7, Try.ntmps7
      go_wp2_with fail
      refine C1.out.mono ?_
      rintro e w1 ⟨rfl, rfl⟩
      go_wp2_with fail
      refine C2.out.mono ?_
      rintro e w1 ⟨rfl, rfl⟩
      go_wp2_with fail
      refine AW.out.mono ?_
      rintro e w1 ⟨rfl, h1⟩
      go_wp2
      go_ret
      exact ⟨rfl, h1⟩
  · have q0 : 0 ≤ q := by omega
    have q5 : q ≤ 500 := by omega
    have NC := Lib.hid (new_d (Fp := Fb w.heap.size) w (Fb_up (Nat.le_refl _)) q (by omega) 1000 (by omega))
    clear hbad g
    by_cases f1 : (x.size : Int) ≤ q
    · by_cases f2 : (y.size : Int) ≤ q - x.size
      · skip
        have e1 : Case q 0 x.size 0 (x.size) := by unfold Case; omega
        have e2 : Case q (x.size) y.size 0 (x.size + y.size) := by unfold Case; omega
        have e3 : Case 1000 (x.size + y.size) x.size 0 (x.size + y.size + x.size) := by unfold Case; omega
        have i1 : decide ((x.size : Int) ≤ q) = true := by simpa using f1
        have i2 : decide ((y.size : Int) ≤ q - (x.size : Int)) = true := by simpa using f2
        go_enter Try.func7, Try.ntmps7
        go_wp2_with fail
        refine C1.out.mono ?_
        rintro e w1 ⟨rfl, rfl⟩
        go_wp2_with fail
        refine C2.out.mono ?_
        rintro e w1 ⟨rfl, rfl⟩
        go_wp2_with fail
        refine NC.out.mono ?_
        rintro e w1 ⟨rfl, d0, o0⟩
        have S0 := sm_new q q0
        have P1 := Lib.hid (append_d d0 (o0.up (Fb_up (Nat.le_refl _))) ⟨#[97]⟩ x (by decide) (by omega) (by omega))
        rw [(S0.next (s := ⟨#[97]⟩) (t := x) (b := w1.heap.size) rfl rfl d0.fresh (by omega) (by omega) e1).1] at P1
        have O1 := Lib.hid o0
        clear NC d0 o0
        go_wp2_with fail
        refine P1.out.mono ?_
        rintro e w2 ⟨rfl, b1, hb1, d1, o1⟩
        obtain ⟨_, S1, N1⟩ := S0.next (s := ⟨#[97]⟩) (t := x) (b := b1) rfl rfl hb1 (by omega) (by omega) e1
        have nb := N1 [98] (by decide) rfl
        have nc := N1 [99] (by decide) rfl
        have O2 := Lib.hid (O1.out.trans o1)
        generalize appD (newDS q) ⟨#[97]⟩ x b1 = D1 at *
        have P2 := Lib.hid (append_d d1 (O2.out.up (Fb_up (Nat.le_refl _))) ⟨#[98]⟩ y (by decide) (by omega) (by omega))
        rw [(S1.next (s := ⟨#[98]⟩) (t := y) (b := w2.heap.size) rfl nb d1.fresh (by omega) (by omega) e2).1] at P2
        clear P1 d1 o1 O1 N1 hb1 S0
        go_wp2_with fail
        refine P2.out.mono ?_
        rintro e w3 ⟨rfl, b2, hb2, d2, o2⟩
        obtain ⟨_, S2, N2⟩ := S1.next (s := ⟨#[98]⟩) (t := y) (b := b2) rfl nb hb2 (by omega) (by omega) e2
        have nc2 := N2 [99] (by decide) nc
        have O3 := Lib.hid (O2.out.trans o2)
        generalize appD D1 ⟨#[98]⟩ y b2 = D2 at *
        have P3 := Lib.hid (used_d d2)
        rw [S2.used] at P3
        have K2 := Lib.hid (And.intro d2 (And.intro S2 nc2))
        clear P2 d2 o2 O2 N2 hb2 S1 S2 nb nc nc2
        go_wp2_with fail
        refine P3.out.mono ?_
        rintro e w4 ⟨rfl, hb4⟩
        have P4 := Lib.hid (quota_d (K2.out.1.below hb4) 1000 (by omega))
        have O4 := Lib.hid (O3.out.trans (Oth.of_below hb4))
        clear P3 hb4 O3
        go_wp2_with fail
        refine P4.out.mono ?_
        rintro e w5 ⟨rfl, d5, o5⟩
        have O5 := Lib.hid (O4.out.trans o5)
        have S5 := K2.out.2.1.quo 1000 (by omega)
        have n5 : getD (qDS D2 1000).now [99] = none := K2.out.2.2
        generalize qDS D2 1000 = D5 at *
        have K5 := Lib.hid (And.intro d5 (And.intro S5 n5))
        have P5 := Lib.hid (awake_any w5)
        clear P4 d5 o5 O4 K2 S5 n5
        go_wp2_with fail
        refine P5.out.mono ?_
        rintro e w6 ⟨rfl, hb6⟩
        have d6 := K5.out.1.below hb6
        have O6 := Lib.hid (O5.out.trans (Oth.of_below hb6))
        have P6 := Lib.hid (append_d d6 (O6.out.up (Fb_up (Nat.le_refl _))) ⟨#[99]⟩ x (by decide) (by omega) (by omega))
        rw [(K5.out.2.1.next (s := ⟨#[99]⟩) (t := x) (b := w6.heap.size) rfl K5.out.2.2 d6.fresh (by omega) (by omega) e3).1] at P6
        clear P5 hb6 O5 d6
        go_wp2_with fail
        refine P6.out.mono ?_
        rintro e w7 ⟨rfl, b7, hb7, d7, o7⟩
        obtain ⟨_, S7, _⟩ := K5.out.2.1.next (s := ⟨#[99]⟩) (t := x) (b := b7) rfl K5.out.2.2 hb7 (by omega) (by omega) e3
        have O7 := Lib.hid (O6.out.trans o7)
        generalize appD D5 ⟨#[99]⟩ x b7 = D7 at *
        have P7 := Lib.hid (used_d d7)
        rw [S7.used] at P7
        clear P6 d7 o7 O6 S7 hb7 K5
        go_wp2_with fail
        refine P7.out.mono ?_
        rintro e w8 ⟨rfl, hb8⟩
        have O8 := Lib.hid (O7.out.trans (Oth.of_below hb8))
        clear P7 hb8 O7
        go_wp2
        go_ret
        exact ⟨rfl, O8.out.fb (Nat.le_refl _)⟩
      · skip
        have e1 : Case q 0 x.size 0 (x.size) := by unfold Case; omega
        have e2 : Case q (x.size) y.size 7 (x.size) := by unfold Case; omega
        have e3 : Case 1000 (x.size) x.size 0 (x.size + x.size) := by unfold Case; omega
        have i1 : decide ((x.size : Int) ≤ q) = true := by simpa using f1
        have i2 : decide ((y.size : Int) ≤ q - (x.size : Int)) = false := by simpa using f2
        go_enter Try.func7, Try.ntmps7
        go_wp2_with fail
        refine C1.out.mono ?_
        rintro e w1 ⟨rfl, rfl⟩
        go_wp2_with fail
        refine C2.out.mono ?_
        rintro e w1 ⟨rfl, rfl⟩
        go_wp2_with fail
        refine NC.out.mono ?_
        rintro e w1 ⟨rfl, d0, o0⟩
        have S0 := sm_new q q0
        have P1 := Lib.hid (append_d d0 (o0.up (Fb_up (Nat.le_refl _))) ⟨#[97]⟩ x (by decide) (by omega) (by omega))
        rw [(S0.next (s := ⟨#[97]⟩) (t := x) (b := w1.heap.size) rfl rfl d0.fresh (by omega) (by omega) e1).1] at P1
        have O1 := Lib.hid o0
        clear NC d0 o0
        go_wp2_with fail
        refine P1.out.mono ?_
        rintro e w2 ⟨rfl, b1, hb1, d1, o1⟩
        obtain ⟨_, S1, N1⟩ := S0.next (s := ⟨#[97]⟩) (t := x) (b := b1) rfl rfl hb1 (by omega) (by omega) e1
        have nb := N1 [98] (by decide) rfl
        have nc := N1 [99] (by decide) rfl
        have O2 := Lib.hid (O1.out.trans o1)
        generalize appD (newDS q) ⟨#[97]⟩ x b1 = D1 at *
        have P2 := Lib.hid (append_d d1 (O2.out.up (Fb_up (Nat.le_refl _))) ⟨#[98]⟩ y (by decide) (by omega) (by omega))
        rw [(S1.next (s := ⟨#[98]⟩) (t := y) (b := w2.heap.size) rfl nb d1.fresh (by omega) (by omega) e2).1] at P2
        clear P1 d1 o1 O1 N1 hb1 S0
        go_wp2_with fail
        refine P2.out.mono ?_
        rintro e w3 ⟨rfl, b2, hb2, d2, o2⟩
        obtain ⟨_, S2, N2⟩ := S1.next (s := ⟨#[98]⟩) (t := y) (b := b2) rfl nb hb2 (by omega) (by omega) e2
        have nc2 := N2 [99] (by decide) nc
        have O3 := Lib.hid (O2.out.trans o2)
        generalize appD D1 ⟨#[98]⟩ y b2 = D2 at *
        have P3 := Lib.hid (used_d d2)
        rw [S2.used] at P3
        have K2 := Lib.hid (And.intro d2 (And.intro S2 nc2))
        clear P2 d2 o2 O2 N2 hb2 S1 S2 nb nc nc2
        go_wp2_with fail
        refine P3.out.mono ?_
        rintro e w4 ⟨rfl, hb4⟩
        have P4 := Lib.hid (quota_d (K2.out.1.below hb4) 1000 (by omega))
        have O4 := Lib.hid (O3.out.trans (Oth.of_below hb4))
        clear P3 hb4 O3
        go_wp2_with fail
        refine P4.out.mono ?_
        rintro e w5 ⟨rfl, d5, o5⟩
        have O5 := Lib.hid (O4.out.trans o5)
        have S5 := K2.out.2.1.quo 1000 (by omega)
        have n5 : getD (qDS D2 1000).now [99] = none := K2.out.2.2
        generalize qDS D2 1000 = D5 at *
        have K5 := Lib.hid (And.intro d5 (And.intro S5 n5))
        have P5 := Lib.hid (awake_any w5)
        clear P4 d5 o5 O4 K2 S5 n5
        go_wp2_with fail
        refine P5.out.mono ?_
        rintro e w6 ⟨rfl, hb6⟩
        have d6 := K5.out.1.below hb6
        have O6 := Lib.hid (O5.out.trans (Oth.of_below hb6))
        have P6 := Lib.hid (append_d d6 (O6.out.up (Fb_up (Nat.le_refl _))) ⟨#[99]⟩ x (by decide) (by omega) (by omega))
        rw [(K5.out.2.1.next (s := ⟨#[99]⟩) (t := x) (b := w6.heap.size) rfl K5.out.2.2 d6.fresh (by omega) (by omega) e3).1] at P6
        clear P5 hb6 O5 d6
        go_wp2_with fail
        refine P6.out.mono ?_
        rintro e w7 ⟨rfl, b7, hb7, d7, o7⟩
        obtain ⟨_, S7, _⟩ := K5.out.2.1.next (s := ⟨#[99]⟩) (t := x) (b := b7) rfl K5.out.2.2 hb7 (by omega) (by omega) e3
        have O7 := Lib.hid (O6.out.trans o7)
        generalize appD D5 ⟨#[99]⟩ x b7 = D7 at *
        have P7 := Lib.hid (used_d d7)
        rw [S7.used] at P7
        clear P6 d7 o7 O6 S7 hb7 K5
        go_wp2_with fail
        refine P7.out.mono ?_
        rintro e w8 ⟨rfl, hb8⟩
        have O8 := Lib.hid (O7.out.trans (Oth.of_below hb8))
        clear P7 hb8 O7
        go_wp2
        go_ret
        exact ⟨rfl, O8.out.fb (Nat.le_refl _)⟩
    · by_cases f2 : (y.size : Int) ≤ q
      · skip
        have e1 : Case q 0 x.size 7 (0) := by unfold Case; omega
        have e2 : Case q (0) y.size 0 (y.size) := by unfold Case; omega
        have e3 : Case 1000 (y.size) x.size 0 (y.size + x.size) := by unfold Case; omega
        have i1 : decide ((x.size : Int) ≤ q) = false := by simpa using f1
        have i2 : decide ((y.size : Int) ≤ q) = true := by simpa using f2
        go_enter Try.func7, Try.ntmps7
        go_wp2_with fail
        refine C1.out.mono ?_
        rintro e w1 ⟨rfl, rfl⟩
        go_wp2_with fail
        refine C2.out.mono ?_
        rintro e w1 ⟨rfl, rfl⟩
        go_wp2_with fail
        refine NC.out.mono ?_
        rintro e w1 ⟨rfl, d0, o0⟩
        have S0 := sm_new q q0
        have P1 := Lib.hid (append_d d0 (o0.up (Fb_up (Nat.le_refl _))) ⟨#[97]⟩ x (by decide) (by omega) (by omega))
        rw [(S0.next (s := ⟨#[97]⟩) (t := x) (b := w1.heap.size) rfl rfl d0.fresh (by omega) (by omega) e1).1] at P1
        have O1 := Lib.hid o0
        clear NC d0 o0
        go_wp2_with fail
        refine P1.out.mono ?_
        rintro e w2 ⟨rfl, b1, hb1, d1, o1⟩
        obtain ⟨_, S1, N1⟩ := S0.next (s := ⟨#[97]⟩) (t := x) (b := b1) rfl rfl hb1 (by omega) (by omega) e1
        have nb := N1 [98] (by decide) rfl
        have nc := N1 [99] (by decide) rfl
        have O2 := Lib.hid (O1.out.trans o1)
        generalize appD (newDS q) ⟨#[97]⟩ x b1 = D1 at *
        have P2 := Lib.hid (append_d d1 (O2.out.up (Fb_up (Nat.le_refl _))) ⟨#[98]⟩ y (by decide) (by omega) (by omega))
        rw [(S1.next (s := ⟨#[98]⟩) (t := y) (b := w2.heap.size) rfl nb d1.fresh (by omega) (by omega) e2).1] at P2
        clear P1 d1 o1 O1 N1 hb1 S0
        go_wp2_with fail
        refine P2.out.mono ?_
        rintro e w3 ⟨rfl, b2, hb2, d2, o2⟩
        obtain ⟨_, S2, N2⟩ := S1.next (s := ⟨#[98]⟩) (t := y) (b := b2) rfl nb hb2 (by omega) (by omega) e2
        have nc2 := N2 [99] (by decide) nc
        have O3 := Lib.hid (O2.out.trans o2)
        generalize appD D1 ⟨#[98]⟩ y b2 = D2 at *
        have P3 := Lib.hid (used_d d2)
        rw [S2.used] at P3
        have K2 := Lib.hid (And.intro d2 (And.intro S2 nc2))
        clear P2 d2 o2 O2 N2 hb2 S1 S2 nb nc nc2
        go_wp2_with fail
        refine P3.out.mono ?_
        rintro e w4 ⟨rfl, hb4⟩
        have P4 := Lib.hid (quota_d (K2.out.1.below hb4) 1000 (by omega))
        have O4 := Lib.hid (O3.out.trans (Oth.of_below hb4))
        clear P3 hb4 O3
        go_wp2_with fail
        refine P4.out.mono ?_
        rintro e w5 ⟨rfl, d5, o5⟩
        have O5 := Lib.hid (O4.out.trans o5)
        have S5 := K2.out.2.1.quo 1000 (by omega)
        have n5 : getD (qDS D2 1000).now [99] = none := K2.out.2.2
        generalize qDS D2 1000 = D5 at *
        have K5 := Lib.hid (And.intro d5 (And.intro S5 n5))
        have P5 := Lib.hid (awake_any w5)
        clear P4 d5 o5 O4 K2 S5 n5
        go_wp2_with fail
        refine P5.out.mono ?_
        rintro e w6 ⟨rfl, hb6⟩
        have d6 := K5.out.1.below hb6
        have O6 := Lib.hid (O5.out.trans (Oth.of_below hb6))
        have P6 := Lib.hid (append_d d6 (O6.out.up (Fb_up (Nat.le_refl _))) ⟨#[99]⟩ x (by decide) (by omega) (by omega))
        rw [(K5.out.2.1.next (s := ⟨#[99]⟩) (t := x) (b := w6.heap.size) rfl K5.out.2.2 d6.fresh (by omega) (by omega) e3).1] at P6
        clear P5 hb6 O5 d6
        go_wp2_with fail
        refine P6.out.mono ?_
        rintro e w7 ⟨rfl, b7, hb7, d7, o7⟩
        obtain ⟨_, S7, _⟩ := K5.out.2.1.next (s := ⟨#[99]⟩) (t := x) (b := b7) rfl K5.out.2.2 hb7 (by omega) (by omega) e3
        have O7 := Lib.hid (O6.out.trans o7)
        generalize appD D5 ⟨#[99]⟩ x b7 = D7 at *
        have P7 := Lib.hid (used_d d7)
        rw [S7.used] at P7
        clear P6 d7 o7 O6 S7 hb7 K5
        go_wp2_with fail
        refine P7.out.mono ?_
        rintro e w8 ⟨rfl, hb8⟩
        have O8 := Lib.hid (O7.out.trans (Oth.of_below hb8))
        clear P7 hb8 O7
        go_wp2
        go_ret
        exact ⟨rfl, O8.out.fb (Nat.le_refl _)⟩
      · skip
        have e1 : Case q 0 x.size 7 (0) := by unfold Case; omega
        have e2 : Case q (0) y.size 7 (0) := by unfold Case; omega
        have e3 : Case 1000 (0) x.size 0 (0 + x.size) := by unfold Case; omega
        have i1 : decide ((x.size : Int) ≤ q) = false := by simpa using f1
        have i2 : decide ((y.size : Int) ≤ q) = false := by simpa using f2
        go_enter Try.func7, Try.ntmps7
        go_wp2_with fail
        refine C1.out.mono ?_
        rintro e w1 ⟨rfl, rfl⟩
        go_wp2_with fail
        refine C2.out.mono ?_
        rintro e w1 ⟨rfl, rfl⟩
        go_wp2_with fail
        refine NC.out.mono ?_
        rintro e w1 ⟨rfl, d0, o0⟩
        have S0 := sm_new q q0
        have P1 := Lib.hid (append_d d0 (o0.up (Fb_up (Nat.le_refl _))) ⟨#[97]⟩ x (by decide) (by omega) (by omega))
        rw [(S0.next (s := ⟨#[97]⟩) (t := x) (b := w1.heap.size) rfl rfl d0.fresh (by omega) (by omega) e1).1] at P1
        have O1 := Lib.hid o0
        clear NC d0 o0
        go_wp2_with fail
        refine P1.out.mono ?_
        rintro e w2 ⟨rfl, b1, hb1, d1, o1⟩
        obtain ⟨_, S1, N1⟩ := S0.next (s := ⟨#[97]⟩) (t := x) (b := b1) rfl rfl hb1 (by omega) (by omega) e1
        have nb := N1 [98] (by decide) rfl
        have nc := N1 [99] (by decide) rfl
        have O2 := Lib.hid (O1.out.trans o1)
        generalize appD (newDS q) ⟨#[97]⟩ x b1 = D1 at *
        have P2 := Lib.hid (append_d d1 (O2.out.up (Fb_up (Nat.le_refl _))) ⟨#[98]⟩ y (by decide) (by omega) (by omega))
        rw [(S1.next (s := ⟨#[98]⟩) (t := y) (b := w2.heap.size) rfl nb d1.fresh (by omega) (by omega) e2).1] at P2
        clear P1 d1 o1 O1 N1 hb1 S0
        go_wp2_with fail
        refine P2.out.mono ?_
        rintro e w3 ⟨rfl, b2, hb2, d2, o2⟩
        obtain ⟨_, S2, N2⟩ := S1.next (s := ⟨#[98]⟩) (t := y) (b := b2) rfl nb hb2 (by omega) (by omega) e2
        have nc2 := N2 [99] (by decide) nc
        have O3 := Lib.hid (O2.out.trans o2)
        generalize appD D1 ⟨#[98]⟩ y b2 = D2 at *
        have P3 := Lib.hid (used_d d2)
        rw [S2.used] at P3
        have K2 := Lib.hid (And.intro d2 (And.intro S2 nc2))
        clear P2 d2 o2 O2 N2 hb2 S1 S2 nb nc nc2
        go_wp2_with fail
        refine P3.out.mono ?_
        rintro e w4 ⟨rfl, hb4⟩
        have P4 := Lib.hid (quota_d (K2.out.1.below hb4) 1000 (by omega))
        have O4 := Lib.hid (O3.out.trans (Oth.of_below hb4))
        clear P3 hb4 O3
        go_wp2_with fail
        refine P4.out.mono ?_
        rintro e w5 ⟨rfl, d5, o5⟩
        have O5 := Lib.hid (O4.out.trans o5)
        have S5 := K2.out.2.1.quo 1000 (by omega)
        have n5 : getD (qDS D2 1000).now [99] = none := K2.out.2.2
        generalize qDS D2 1000 = D5 at *
        have K5 := Lib.hid (And.intro d5 (And.intro S5 n5))
        have P5 := Lib.hid (awake_any w5)
        clear P4 d5 o5 O4 K2 S5 n5
        go_wp2_with fail
        refine P5.out.mono ?_
        rintro e w6 ⟨rfl, hb6⟩
        have d6 := K5.out.1.below hb6
        have O6 := Lib.hid (O5.out.trans (Oth.of_below hb6))
        have P6 := Lib.hid (append_d d6 (O6.out.up (Fb_up (Nat.le_refl _))) ⟨#[99]⟩ x (by decide) (by omega) (by omega))
        rw [(K5.out.2.1.next (s := ⟨#[99]⟩) (t := x) (b := w6.heap.size) rfl K5.out.2.2 d6.fresh (by omega) (by omega) e3).1] at P6
        clear P5 hb6 O5 d6
        go_wp2_with fail
        refine P6.out.mono ?_
        rintro e w7 ⟨rfl, b7, hb7, d7, o7⟩
        obtain ⟨_, S7, _⟩ := K5.out.2.1.next (s := ⟨#[99]⟩) (t := x) (b := b7) rfl K5.out.2.2 hb7 (by omega) (by omega) e3
        have O7 := Lib.hid (O6.out.trans o7)
        generalize appD D5 ⟨#[99]⟩ x b7 = D7 at *
        have P7 := Lib.hid (used_d d7)
        rw [S7.used] at P7
        clear P6 d7 o7 O6 S7 hb7 K5
        go_wp2_with fail
        refine P7.out.mono ?_
        rintro e w8 ⟨rfl, hb8⟩
        have O8 := Lib.hid (O7.out.trans (Oth.of_below hb8))
        clear P7 hb8 O7
        go_wp2
        go_ret
        exact ⟨rfl, O8.out.fb (Nat.le_refl _)⟩
end Go.Proofs.Ytaoifbdojleenaa
