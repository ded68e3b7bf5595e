/-
  CONTRACT of layer 3's awake.
-/
import Derived.Test.YtfacobejgmnmpaaDkLC
namespace Go.Proofs.Ytfacobejgmnmpaa
open Go.RowKit Go.Maps

def A1 (b : Nat) (N S : Nm) (sf : Dir) : DS := { now := [([97], b)], safe := sf, fs := upd (fun _ => ([], [])) b (N, S), quota := 100, left := -1, dead := false }
theorem okN_a : okN ⟨#[97]⟩ = true := rfl
theorem sz1 (c : UInt8) : (⟨#[c]⟩ : ByteArray).size = 1 := rfl
theorem sz2 (c e : UInt8) : (⟨#[c, e]⟩ : ByteArray).size = 2 := rfl
theorem aw1 (b : Nat) : appD (newDS 100) ⟨#[97]⟩ ⟨#[120, 121]⟩ b = A1 b [120, 121] [] [] := rfl
theorem aw1e : appE (newDS 100) ⟨#[97]⟩ ⟨#[120, 121]⟩ = 0 := rfl
theorem aw2 (b : Nat) : synD (A1 b [120, 121] [] []) ⟨#[97]⟩ = A1 b [120, 121] [120, 121] [] ∧ synE (A1 b [120, 121] [] []) ⟨#[97]⟩ = 0 := by
  constructor
  · simp [synD, synF, A1, findV, getD, decD, upd_same, upd_upd]
  · simp [synE, A1, findE, getD]
theorem aw3 (b c : Nat) : appD (A1 b [120, 121] [120, 121] []) ⟨#[97]⟩ ⟨#[122]⟩ c = A1 b [120, 121, 122] [120, 121] [] ∧ appE (A1 b [120, 121] [120, 121] []) ⟨#[97]⟩ ⟨#[122]⟩ = 0 := by
  constructor
  · simp [appD, A1, okN_a, roomE, usedD, lenNow, hasL, getD, upd_same, wrD, decD, appF, upd_upd, sz1]
  · simp [appE, A1, okN_a, roomE, usedD, lenNow, hasL, getD, upd_same, sz1]
theorem aw4 (b : Nat) : sdD (A1 b [120, 121, 122] [120, 121] []) = A1 b [120, 121, 122] [120, 121] [([97], b)] ∧ sdE (A1 b [120, 121, 122] [120, 121] []) = 0 := by
  constructor
  · simp [sdD, A1, sdirF, decD]
  · simp [sdE, A1]
theorem aw5 (b : Nat) : crashD (A1 b [120, 121, 122] [120, 121] [([97], b)]) [1] false = A1 b [120, 121, 122] [120, 121, 122] [([97], b)] := by
  simp [crashD, A1, crTo, crF, crN, kf, upd_same, upd_upd, List.isPrefixOf]
  rfl
theorem aw6 (b : Nat) : readS (A1 b [120, 121, 122] [120, 121, 122] [([97], b)]) ⟨#[97]⟩ 0 10 = ⟨#[120, 121, 122]⟩ ∧ readE (A1 b [120, 121, 122] [120, 121, 122] [([97], b)]) ⟨#[97]⟩ 0 10 = 0 := by
  constructor
  · simp [readS, A1, findV, getD, upd_same]
  · simp [readE, A1, findE, getD]
theorem aw7 (b : Nat) : usedD (A1 b [120, 121, 122] [120, 121, 122] [([97], b)]) = 3 := by simp [usedD, A1, lenNow, upd_same]
set_option maxHeartbeats 4000000 in
set_option maxRecDepth 100000 in
theorem awake_any (w : World) : Calls Try.prog 6 #[] w fun e w' => e = .returned (.bool true) ∧ Below w.heap.size w w' := by
  have NC := Lib.hid (new_d (Fp := Fb w.heap.size) w (Fb_up (Nat.le_refl _)) 100 (by omega) 1000 (by omega))
  go_enter Try.func6, Try.ntmps6
  go_wp2_with fail
  refine NC.out.mono ?_
  rintro e w1 ⟨rfl, d1, o1⟩
  have P1 := Lib.hid (append_d d1 (o1.up (Fb_up (Nat.le_refl _))) ⟨#[97]⟩ ⟨#[120, 121]⟩ (by decide) (by decide) (by omega))
  rw [aw1e] at P1
  have O1 := Lib.hid o1
  clear NC d1 o1
  go_wp2_with fail
  refine P1.out.mono ?_
  rintro e w2 ⟨rfl, b, _, d2, o2⟩
  rw [aw1] at d2
  have O2 := Lib.hid (O1.out.trans o2)
  have P2 := Lib.hid (sync_d d2 ⟨#[97]⟩ (by decide))
  rw [(aw2 b).2] at P2
  clear P1 d2 o2 O1
  go_wp2_with fail
  refine P2.out.mono ?_
  rintro e w3 ⟨rfl, d3, o3⟩
  rw [(aw2 b).1] at d3
  have O3 := Lib.hid (O2.out.trans o3)
  have P3 := Lib.hid (append_d d3 (O3.out.up (Fb_up (Nat.le_refl _))) ⟨#[97]⟩ ⟨#[122]⟩ (by decide) (by decide) (by omega))
  rw [(aw3 b 0).2] at P3
  clear P2 d3 o3 O2
  go_wp2_with fail
  refine P3.out.mono ?_
  rintro e w4 ⟨rfl, c, _, d4, o4⟩
  rw [(aw3 b c).1] at d4
  have O4 := Lib.hid (O3.out.trans o4)
  have P4 := Lib.hid (sdir_d d4 (O4.out.up (Fb_up (Nat.le_refl _))))
  rw [(aw4 b).2] at P4
  clear P3 d4 o4 O3
  go_wp2_with fail
  refine P4.out.mono ?_
  rintro e w5 ⟨rfl, d5, o5⟩
  rw [(aw4 b).1] at d5
  have O5 := Lib.hid (O4.out.trans o5)
  have P5 := Lib.hid (crash_lit d5 (O5.out.up (Fb_up (Nat.le_refl _))) 1 (by omega) false)
  clear P4 d5 o5 O4
  go_wp2_with fail
  refine P5.out.mono ?_
  rintro e w6 ⟨rfl, d6, o6⟩
  rw [aw5 b] at d6
  have O6 := Lib.hid (O5.out.trans o6)
  have P6 := Lib.hid (read_d d6 ⟨#[97]⟩ (by decide) 0 10 (by omega) (by omega))
  rw [(aw6 b).1, (aw6 b).2] at P6
  have D6 := Lib.hid d6
  clear P5 d6 o6 O5
  go_wp2_with fail
  refine P6.out.mono ?_
  rintro e w7 ⟨rfl, hb7⟩
  have P7 := Lib.hid (used_d (D6.out.below hb7))
  rw [aw7 b] at P7
  have O7 := Lib.hid (O6.out.trans (Oth.of_below hb7))
  clear P6 hb7 D6 O6
  go_wp2_with fail
  refine P7.out.mono ?_
  rintro e w8 ⟨rfl, hb8⟩
  have O8 := Lib.hid (O7.out.trans (Oth.of_below hb8))
  clear P7 hb8 O7
  go_wp2
  go_ret
  exact ⟨rfl, O8.out.fb (Nat.le_refl _)⟩
end Go.Proofs.Ytfacobejgmnmpaa
