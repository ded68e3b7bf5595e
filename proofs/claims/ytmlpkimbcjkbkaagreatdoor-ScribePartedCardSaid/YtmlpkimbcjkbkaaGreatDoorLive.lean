/-
  CONTRACT of the statements' own live: it returns true; nothing that was there is written.
-/
import Derived.Test.YtmlpkimbcjkbkaaGreatDoorDjW
namespace Go.Proofs.YtmlpkimbcjkbkaaGreatDoor
open Go.RowKit Go.Maps

theorem fit_ab : (((frameL (⟨#[97, 98]⟩ : ByteArray).data.toList).length : Nat) : Int) ≤ 1000 - lenC none ∧ (0 : Int) = 0 ∧ some (frameL (⟨#[97, 98]⟩ : ByteArray).data.toList) = some (frameL (⟨#[97, 98]⟩ : ByteArray).data.toList) := by
  have f2 : (frameL (⟨#[97, 98]⟩ : ByteArray).data.toList).length ≤ 42 := frame_size [97, 98] (by decide)
  exact ⟨by rw [lenC_none]; omega, rfl, rfl⟩
set_option maxHeartbeats 4000000 in
set_option maxRecDepth 100000 in
theorem live_any (w : World) (G : Gl w) : Calls Tryz.prog 4 #[] w fun e w' => e = .returned (.bool true) ∧ Below w.heap.size w w' := by
  have NC := Lib.hid (new_d (Fp := Fb w.heap.size) w (Fb_up (Nat.le_refl _)) 1000 (by omega) 1000 (by omega))
  have HG := Lib.hid G
  clear G
  go_enter Tryz.func4, Tryz.ntmps4
  go_wp2_with fail
  refine NC.out.mono ?_
  rintro e w1 ⟨rfl, d0, o0⟩
  have P1 := Lib.hid (save_js HG.out (o0.fb (Nat.le_refl _)) (Nat.le_refl _) d0 o0.size (by omega) (js_new 1000 (by omega)) ⟨#[97, 98]⟩ (by decide) 0 (some (frameL (⟨#[97, 98]⟩ : ByteArray).data.toList)) (.inl fit_ab))
  have O1 := Lib.hid o0
  clear NC d0 o0
  go_wp2_with fail
  refine P1.out.mono ?_
  rintro e w2 ⟨rfl, D1, J1, d1, o1⟩
  have O2 := Lib.hid (O1.out.trans o1)
  have P2 := Lib.hid (load_some (HG.out.next (O2.out.fb (Nat.le_refl _))) d1 (t := ⟨#[97, 98]⟩) (by decide) J1)
  clear P1 J1 d1 o1 O1
  go_wp2_with fail
  refine P2.out.mono ?_
  rintro e w3 ⟨rfl, hb3⟩
  have O3 := Lib.hid (O2.out.trans (Oth.of_below hb3))
  have P3 := Lib.hid (of_any ⟨#[97, 98]⟩ w3 (by decide))
  rw [show Ad.sum (⟨#[97, 98]⟩ : ByteArray).data.toList = 19267780 from by decide] at P3
  clear P2 hb3 O2
  go_wp2_with fail
  refine P3.out.mono ?_
  rintro e w4 ⟨rfl, hb4⟩
  have O4 := Lib.hid (O3.out.trans (Oth.of_below hb4))
  clear P3 hb4 O3
  go_wp2
  go_ret
  exact ⟨rfl, O4.out.fb (Nat.le_refl _)⟩
end Go.Proofs.YtmlpkimbcjkbkaaGreatDoor
