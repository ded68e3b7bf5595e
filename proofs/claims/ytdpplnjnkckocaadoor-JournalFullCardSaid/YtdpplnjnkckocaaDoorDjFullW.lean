/-
  THE WALK of the law JournalFull: whatever the quota and the two texts, it returns true and writes to nothing that was there.
-/
import Derived.Test.YtdpplnjnkckocaaDoorDjW
import Derived.Test.YtdpplnjnkckocaaDoorJAwake
namespace Go.Proofs.YtdpplnjnkckocaaDoor
open Go.RowKit Go.Maps

set_option maxHeartbeats 8000000 in
set_option maxRecDepth 100000 in
theorem jfull_walk (q : Int) (a b : ByteArray) (hq : (Lit.int .i64 q).wf = true) (ha : a.size ≤ maxLen) (hb : b.size ≤ maxLen) (w : World) (G : Gl w) :
    Calls Tryd.prog 3 #[.int .i64 q, .string a, .string b] w fun e w' => e = .returned (.bool true) ∧ Below w.heap.size w w' := by
  have C1 := Lib.hid (cut_any a 200 w ha (by omega))
  have C2 := Lib.hid (cut_any b 200 w hb (by omega))
  have l1 := cutB_size a 200
  have l2 := cutB_size b 200
  have g : -9223372036854775808 ≤ q ∧ q ≤ 9223372036854775807 := bounds_i64 hq
  generalize cutB a 200 = x at *
  generalize cutB b 200 = y at *
  have HG := Lib.hid G
  clear ha hb hq G
  by_cases h1 : q < 0
  · have AW := Lib.hid (awake_any w HG.out)
    clear g HG
    go_enter Tryd.func3, Tryd.ntmps3
    go_wp2_with fail
    refine C1.out.mono ?_
    rintro e w1 ⟨rfl, rfl⟩
    go_wp2_with fail
    refine C2.out.mono ?_
    rintro e w1 ⟨rfl, rfl⟩
    go_wp2_with fail
    refine AW.out.mono ?_
    rintro e w1 ⟨rfl, h1⟩
    go_wp2
    go_ret
    exact ⟨rfl, h1⟩
  have h1' : decide (q < 0) = false := by simpa using h1
  by_cases h2 : 600 < q
  · have AW := Lib.hid (awake_any w HG.out)
    clear g HG
    go_enter Tryd.func3, Tryd.ntmps3
    go_wp2_with fail
    refine C1.out.mono ?_
    rintro e w1 ⟨rfl, rfl⟩
    go_wp2_with fail
    refine C2.out.mono ?_
    rintro e w1 ⟨rfl, rfl⟩
    go_wp2_with fail
    refine AW.out.mono ?_
    rintro e w1 ⟨rfl, h1⟩
    go_wp2
    go_ret
    exact ⟨rfl, h1⟩
  have h2' : decide (600 < q) = false := by simpa using h2
  have q0 : 0 ≤ q := by omega
  have q6 : q ≤ 600 := by omega
  have f1 := frame_size x.data.toList (by simp; omega)
  have f2 := frame_size y.data.toList (by simp; omega)
  have e1 : x.data.toList.length = x.size := by simp
  have e2 : y.data.toList.length = y.size := by simp
  have NC := Lib.hid (new_d (Fp := Fb w.heap.size) w (Fb_up (Nat.le_refl _)) q (by omega) 1000 (by omega))
  clear h1 h2 g
  by_cases c1 : (((frameL x.data.toList).length : Nat) : Int) ≤ q
  · by_cases c2 : (((frameL y.data.toList).length : Nat) : Int) ≤ q - ((frameL x.data.toList).length : Nat)
    · skip
      go_enter Tryd.func3, Tryd.ntmps3
      go_wp2_with fail
      refine C1.out.mono ?_
      rintro e w1 ⟨rfl, rfl⟩
      go_wp2_with fail
      refine C2.out.mono ?_
      rintro e w1 ⟨rfl, rfl⟩
      go_wp2_with fail
      refine NC.out.mono ?_
      rintro e w1 ⟨rfl, d0, o0⟩
      have P1 := Lib.hid (save_js HG.out (o0.fb (Nat.le_refl _)) (Nat.le_refl _) d0 o0.size (by omega) (js_new q q0) x (by omega) 0 (some (frameL x.data.toList)) (.inl ⟨by rw [lenC_none]; omega, rfl, rfl⟩))
      have O1 := Lib.hid o0
      clear NC d0 o0
      go_wp2_with fail
      refine P1.out.mono ?_
      rintro e w2 ⟨rfl, D1, J1, d1, o1⟩
      have O2 := Lib.hid (O1.out.trans o1)
      have P2 := Lib.hid (save_js HG.out (O2.out.fb (Nat.le_refl _)) (Nat.le_refl _) d1 O2.out.size (by omega) J1 y (by omega) 0 (some (frameL y.data.toList)) (.inl ⟨by rw [lenC_some]; omega, rfl, rfl⟩))
      clear P1 J1 d1 o1 O1
      go_wp2_with fail
      refine P2.out.mono ?_
      rintro e w3 ⟨rfl, D2, J2, d2, o2⟩
      have O3 := Lib.hid (O2.out.trans o2)
      have K3 := Lib.hid (And.intro J2 (And.intro d2 trivial))
      have P3 := Lib.hid (load_some (HG.out.next (O3.out.fb (Nat.le_refl _))) K3.out.2.1 (t := y) (by omega) K3.out.1)
      clear P2 J2 d2 o2 O2
      go_wp2_with fail
      refine P3.out.mono ?_
      rintro e w4 ⟨rfl, hb4⟩
      have d4 := K3.out.2.1.below hb4
      have O4 := Lib.hid (O3.out.trans (Oth.of_below hb4))
      have P4 := Lib.hid (quota_d d4 1000 (by omega))
      have J4 := Lib.hid (K3.out.1.quo 1000 (by omega))
      clear P3 hb4 d4 O3 K3
      go_wp2_with fail
      refine P4.out.mono ?_
      rintro e w5 ⟨rfl, d5, o5⟩
      have O5 := Lib.hid (O4.out.trans o5)
      have P5 := Lib.hid (save_js HG.out (O5.out.fb (Nat.le_refl _)) (Nat.le_refl _) d5 O5.out.size (by omega) J4.out y (by omega) 0 (some (frameL y.data.toList)) (.inl ⟨by rw [lenC_some]; omega, rfl, rfl⟩))
      clear P4 d5 o5 O4 J4
      go_wp2_with fail
      refine P5.out.mono ?_
      rintro e w6 ⟨rfl, D6, J6, d6, o6⟩
      have O6 := Lib.hid (O5.out.trans o6)
      have P6 := Lib.hid (load_some (HG.out.next (O6.out.fb (Nat.le_refl _))) d6 (t := y) (by omega) J6)
      clear P5 J6 d6 o6 O5
      go_wp2_with fail
      refine P6.out.mono ?_
      rintro e w7 ⟨rfl, hb7⟩
      have O7 := Lib.hid (O6.out.trans (Oth.of_below hb7))
      have P7 := Lib.hid (awake_any w7 (HG.out.next (O7.out.fb (Nat.le_refl _))))
      clear P6 hb7 O6
      go_wp2_with fail
      refine P7.out.mono ?_
      rintro e w8 ⟨rfl, hb8⟩
      have O8 := Lib.hid (O7.out.trans (Oth.of_below hb8))
      clear P7 hb8 O7
      go_wp2
      go_ret
      exact ⟨rfl, O8.out.fb (Nat.le_refl _)⟩
    · skip
      go_enter Tryd.func3, Tryd.ntmps3
      go_wp2_with fail
      refine C1.out.mono ?_
      rintro e w1 ⟨rfl, rfl⟩
      go_wp2_with fail
      refine C2.out.mono ?_
      rintro e w1 ⟨rfl, rfl⟩
      go_wp2_with fail
      refine NC.out.mono ?_
      rintro e w1 ⟨rfl, d0, o0⟩
      have P1 := Lib.hid (save_js HG.out (o0.fb (Nat.le_refl _)) (Nat.le_refl _) d0 o0.size (by omega) (js_new q q0) x (by omega) 0 (some (frameL x.data.toList)) (.inl ⟨by rw [lenC_none]; omega, rfl, rfl⟩))
      have O1 := Lib.hid o0
      clear NC d0 o0
      go_wp2_with fail
      refine P1.out.mono ?_
      rintro e w2 ⟨rfl, D1, J1, d1, o1⟩
      have O2 := Lib.hid (O1.out.trans o1)
      have P2 := Lib.hid (save_js HG.out (O2.out.fb (Nat.le_refl _)) (Nat.le_refl _) d1 O2.out.size (by omega) J1 y (by omega) 7 (some (frameL x.data.toList)) (.inr ⟨by rw [lenC_some]; omega, rfl, rfl⟩))
      clear P1 J1 d1 o1 O1
      go_wp2_with fail
      refine P2.out.mono ?_
      rintro e w3 ⟨rfl, D2, J2, d2, o2⟩
      have O3 := Lib.hid (O2.out.trans o2)
      have K3 := Lib.hid (And.intro J2 (And.intro d2 trivial))
      have P3 := Lib.hid (load_some (HG.out.next (O3.out.fb (Nat.le_refl _))) K3.out.2.1 (t := x) (by omega) K3.out.1)
      clear P2 J2 d2 o2 O2
      go_wp2_with fail
      refine P3.out.mono ?_
      rintro e w4 ⟨rfl, hb4⟩
      have d4 := K3.out.2.1.below hb4
      have O4 := Lib.hid (O3.out.trans (Oth.of_below hb4))
      have P4 := Lib.hid (quota_d d4 1000 (by omega))
      have J4 := Lib.hid (K3.out.1.quo 1000 (by omega))
      clear P3 hb4 d4 O3 K3
      go_wp2_with fail
      refine P4.out.mono ?_
      rintro e w5 ⟨rfl, d5, o5⟩
      have O5 := Lib.hid (O4.out.trans o5)
      have P5 := Lib.hid (save_js HG.out (O5.out.fb (Nat.le_refl _)) (Nat.le_refl _) d5 O5.out.size (by omega) J4.out y (by omega) 0 (some (frameL y.data.toList)) (.inl ⟨by rw [lenC_some]; omega, rfl, rfl⟩))
      clear P4 d5 o5 O4 J4
      go_wp2_with fail
      refine P5.out.mono ?_
      rintro e w6 ⟨rfl, D6, J6, d6, o6⟩
      have O6 := Lib.hid (O5.out.trans o6)
      have P6 := Lib.hid (load_some (HG.out.next (O6.out.fb (Nat.le_refl _))) d6 (t := y) (by omega) J6)
      clear P5 J6 d6 o6 O5
      go_wp2_with fail
      refine P6.out.mono ?_
      rintro e w7 ⟨rfl, hb7⟩
      have O7 := Lib.hid (O6.out.trans (Oth.of_below hb7))
      have P7 := Lib.hid (awake_any w7 (HG.out.next (O7.out.fb (Nat.le_refl _))))
      clear P6 hb7 O6
      go_wp2_with fail
      refine P7.out.mono ?_
      rintro e w8 ⟨rfl, hb8⟩
      have O8 := Lib.hid (O7.out.trans (Oth.of_below hb8))
      clear P7 hb8 O7
      go_wp2
      go_ret
      exact ⟨rfl, O8.out.fb (Nat.le_refl _)⟩
  · by_cases c2 : (((frameL y.data.toList).length : Nat) : Int) ≤ q
    · skip
      go_enter Tryd.func3, Tryd.ntmps3
      go_wp2_with fail
      refine C1.out.mono ?_
      rintro e w1 ⟨rfl, rfl⟩
      go_wp2_with fail
      refine C2.out.mono ?_
      rintro e w1 ⟨rfl, rfl⟩
      go_wp2_with fail
      refine NC.out.mono ?_
      rintro e w1 ⟨rfl, d0, o0⟩
      have P1 := Lib.hid (save_js HG.out (o0.fb (Nat.le_refl _)) (Nat.le_refl _) d0 o0.size (by omega) (js_new q q0) x (by omega) 7 none (.inr ⟨by rw [lenC_none]; omega, rfl, rfl⟩))
      have O1 := Lib.hid o0
      clear NC d0 o0
      go_wp2_with fail
      refine P1.out.mono ?_
      rintro e w2 ⟨rfl, D1, J1, d1, o1⟩
      have O2 := Lib.hid (O1.out.trans o1)
      have P2 := Lib.hid (save_js HG.out (O2.out.fb (Nat.le_refl _)) (Nat.le_refl _) d1 O2.out.size (by omega) J1 y (by omega) 0 (some (frameL y.data.toList)) (.inl ⟨by rw [lenC_none]; omega, rfl, rfl⟩))
      clear P1 J1 d1 o1 O1
      go_wp2_with fail
      refine P2.out.mono ?_
      rintro e w3 ⟨rfl, D2, J2, d2, o2⟩
      have O3 := Lib.hid (O2.out.trans o2)
      have K3 := Lib.hid (And.intro J2 (And.intro d2 trivial))
      have P3 := Lib.hid (load_some (HG.out.next (O3.out.fb (Nat.le_refl _))) K3.out.2.1 (t := y) (by omega) K3.out.1)
      clear P2 J2 d2 o2 O2
      go_wp2_with fail
      refine P3.out.mono ?_
      rintro e w4 ⟨rfl, hb4⟩
      have d4 := K3.out.2.1.below hb4
      have O4 := Lib.hid (O3.out.trans (Oth.of_below hb4))
      have P4 := Lib.hid (quota_d d4 1000 (by omega))
      have J4 := Lib.hid (K3.out.1.quo 1000 (by omega))
      clear P3 hb4 d4 O3 K3
      go_wp2_with fail
      refine P4.out.mono ?_
      rintro e w5 ⟨rfl, d5, o5⟩
      have O5 := Lib.hid (O4.out.trans o5)
      have P5 := Lib.hid (save_js HG.out (O5.out.fb (Nat.le_refl _)) (Nat.le_refl _) d5 O5.out.size (by omega) J4.out y (by omega) 0 (some (frameL y.data.toList)) (.inl ⟨by rw [lenC_some]; omega, rfl, rfl⟩))
      clear P4 d5 o5 O4 J4
      go_wp2_with fail
      refine P5.out.mono ?_
      rintro e w6 ⟨rfl, D6, J6, d6, o6⟩
      have O6 := Lib.hid (O5.out.trans o6)
      have P6 := Lib.hid (load_some (HG.out.next (O6.out.fb (Nat.le_refl _))) d6 (t := y) (by omega) J6)
      clear P5 J6 d6 o6 O5
      go_wp2_with fail
      refine P6.out.mono ?_
      rintro e w7 ⟨rfl, hb7⟩
      have O7 := Lib.hid (O6.out.trans (Oth.of_below hb7))
      have P7 := Lib.hid (awake_any w7 (HG.out.next (O7.out.fb (Nat.le_refl _))))
      clear P6 hb7 O6
      go_wp2_with fail
      refine P7.out.mono ?_
      rintro e w8 ⟨rfl, hb8⟩
      have O8 := Lib.hid (O7.out.trans (Oth.of_below hb8))
      clear P7 hb8 O7
      go_wp2
      go_ret
      exact ⟨rfl, O8.out.fb (Nat.le_refl _)⟩
    · skip
      go_enter Tryd.func3, Tryd.ntmps3
      go_wp2_with fail
      refine C1.out.mono ?_
      rintro e w1 ⟨rfl, rfl⟩
      go_wp2_with fail
      refine C2.out.mono ?_
      rintro e w1 ⟨rfl, rfl⟩
      go_wp2_with fail
      refine NC.out.mono ?_
      rintro e w1 ⟨rfl, d0, o0⟩
      have P1 := Lib.hid (save_js HG.out (o0.fb (Nat.le_refl _)) (Nat.le_refl _) d0 o0.size (by omega) (js_new q q0) x (by omega) 7 none (.inr ⟨by rw [lenC_none]; omega, rfl, rfl⟩))
      have O1 := Lib.hid o0
      clear NC d0 o0
      go_wp2_with fail
      refine P1.out.mono ?_
      rintro e w2 ⟨rfl, D1, J1, d1, o1⟩
      have O2 := Lib.hid (O1.out.trans o1)
      have P2 := Lib.hid (save_js HG.out (O2.out.fb (Nat.le_refl _)) (Nat.le_refl _) d1 O2.out.size (by omega) J1 y (by omega) 7 none (.inr ⟨by rw [lenC_none]; omega, rfl, rfl⟩))
      clear P1 J1 d1 o1 O1
      go_wp2_with fail
      refine P2.out.mono ?_
      rintro e w3 ⟨rfl, D2, J2, d2, o2⟩
      have O3 := Lib.hid (O2.out.trans o2)
      have K3 := Lib.hid (And.intro J2 (And.intro d2 trivial))
      have P3 := Lib.hid (load_none K3.out.2.1 K3.out.1)
      clear P2 J2 d2 o2 O2
      go_wp2_with fail
      refine P3.out.mono ?_
      rintro e w4 ⟨rfl, hb4⟩
      have d4 := K3.out.2.1.below hb4
      have O4 := Lib.hid (O3.out.trans (Oth.of_below hb4))
      have P4 := Lib.hid (quota_d d4 1000 (by omega))
      have J4 := Lib.hid (K3.out.1.quo 1000 (by omega))
      clear P3 hb4 d4 O3 K3
      go_wp2_with fail
      refine P4.out.mono ?_
      rintro e w5 ⟨rfl, d5, o5⟩
      have O5 := Lib.hid (O4.out.trans o5)
      have P5 := Lib.hid (save_js HG.out (O5.out.fb (Nat.le_refl _)) (Nat.le_refl _) d5 O5.out.size (by omega) J4.out y (by omega) 0 (some (frameL y.data.toList)) (.inl ⟨by rw [lenC_none]; omega, rfl, rfl⟩))
      clear P4 d5 o5 O4 J4
      go_wp2_with fail
      refine P5.out.mono ?_
      rintro e w6 ⟨rfl, D6, J6, d6, o6⟩
      have O6 := Lib.hid (O5.out.trans o6)
      have P6 := Lib.hid (load_some (HG.out.next (O6.out.fb (Nat.le_refl _))) d6 (t := y) (by omega) J6)
      clear P5 J6 d6 o6 O5
      go_wp2_with fail
      refine P6.out.mono ?_
      rintro e w7 ⟨rfl, hb7⟩
      have O7 := Lib.hid (O6.out.trans (Oth.of_below hb7))
      have P7 := Lib.hid (awake_any w7 (HG.out.next (O7.out.fb (Nat.le_refl _))))
      clear P6 hb7 O6
      go_wp2_with fail
      refine P7.out.mono ?_
      rintro e w8 ⟨rfl, hb8⟩
      have O8 := Lib.hid (O7.out.trans (Oth.of_below hb8))
      clear P7 hb8 O7
      go_wp2
      go_ret
      exact ⟨rfl, O8.out.fb (Nat.le_refl _)⟩
end Go.Proofs.YtdpplnjnkckocaaDoor
