/-
  CONTRACTS of the statements' own awake and fit.
-/
import Derived.Test.YtknnaloepkonlaaDoorNumW3
namespace Go.Proofs.YtknnaloepkonlaaDoor
open Go.RowKit

theorem fit_yes (a : Int) (w : World) (h : OkN a) :
    Calls Tryd.prog 4 #[.int .i64 a] w fun e w' => e = .returned (.bool true) ∧ w = w' := by
  obtain ⟨h1, h2⟩ := h
  go_enter Tryd.func4, Tryd.ntmps4
  go_wp2
  go_ret
  exact ⟨rfl, rfl⟩
theorem fit_no (a : Int) (w : World) (h : ¬ OkN a) :
    Calls Tryd.prog 4 #[.int .i64 a] w fun e w' => e = .returned (.bool false) ∧ w = w' := by
  unfold OkN at h
  by_cases h1 : -4611686018427387903 ≤ a
  · have h2 : ¬ a ≤ 4611686018427387903 := fun h2 => h ⟨h1, h2⟩
    clear h
    go_enter Tryd.func4, Tryd.ntmps4
    go_wp2
    go_ret
    exact ⟨rfl, rfl⟩
  · clear h
    go_enter Tryd.func4, Tryd.ntmps4
    go_wp2
    go_ret
    exact ⟨rfl, rfl⟩
theorem aw1 : prefixL [32, 45, 49, 46, 53, 48, 120] = (-1500000, 6) := by decide +kernel
theorem aw2 : divI 1000000 3000000 = 333333 := by decide +kernel
theorem aw3 : textL (-1500000) = [45, 49, 46, 53] := by decide +kernel
set_option maxHeartbeats 1000000 in
theorem awake_any (w : World) (G : Gl w) :
    Calls Tryd.prog 5 #[] w fun e w' => e = .returned (.bool true) ∧ Below w.heap.size w w' := by
  have c1 := Lib.hid fun W => prefix_any ⟨#[32, 45, 49, 46, 53, 48, 120]⟩ W (by decide)
  have c2 := Lib.hid fun W => div_any 1000000 3000000 W (by unfold OkN; omega) (by unfold OkN; omega) (by decide)
  have c3 := Lib.hid fun W G => text_any (-1500000) W (by unfold OkN; omega) G
  rw [show (⟨#[32, 45, 49, 46, 53, 48, 120]⟩ : ByteArray).data.toList = [32, 45, 49, 46, 53, 48, 120] from rfl, aw1] at c1
  rw [aw2] at c2
  rw [aw3] at c3
  have HG := Lib.hid G
  clear G
  go_enter Tryd.func5, Tryd.ntmps5
  go_wp2_with fail
  refine (c1.out _).mono ?_
  rintro e w1 ⟨rfl, hb1⟩
  have HB1 := Lib.hid hb1
  clear hb1
  go_wp2_with fail
  refine (c2.out _).mono ?_
  rintro e w2 ⟨rfl, hb2⟩
  have HB2 := Lib.hid (HB1.out.trans (hb2.below.mono HB1.out.size))
  clear hb2 HB1
  go_wp2_with fail
  refine (c3.out _ (HG.out.next HB2.out)).mono ?_
  rintro e w3 ⟨rfl, hb3⟩
  have HB3 := Lib.hid (HB2.out.trans (hb3.mono HB2.out.size))
  clear hb3 HB2
  go_wp2_with fail
  go_ret
  exact ⟨rfl, HB3.out⟩
end Go.Proofs.YtknnaloepkonlaaDoor
