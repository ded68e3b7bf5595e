/-
  THE WALK of the law JournalOpens.
-/
import Derived.Test.YtkoddlfhkgonbaaDoorJBackW
import Derived.Test.YtkoddlfhkgonbaaDoorJRef
namespace Go.Proofs.YtkoddlfhkgonbaaDoor
open Go.RowKit

set_option maxHeartbeats 2000000 in
set_option maxRecDepth 100000 in
theorem jopens_walk (a0 a1 : ByteArray) (w0 : a0.size ≤ maxLen) (w1 : a1.size ≤ maxLen) (w : World) (G : Gl w) :
    Calls Tryd.prog 3 #[.string a0, .string a1] w fun e w' => e = .returned (.bool true) ∧ Below w.heap.size w w' := by
  have C0 := Lib.hid (fun w => cut_any a0 500 w w0 (by omega))
  have C1 := Lib.hid (fun w => cut_any a1 500 w w1 (by omega))
  have hs := cutB_size a0 500
  have ht := cutB_size a1 500
  generalize cutB a0 500 = s at *
  generalize cutB a1 500 = t at *
  clear w0 w1
  have OP := Lib.hid (fun w g => open_any s w (by omega) g)
  have RO := Lib.hid (fun w => refopen_any s w (by omega))
  have FR := Lib.hid (fun w g => frame_any t w (by omega) g)
  have RF := Lib.hid (fun w => refframe_any t w (by omega))
  generalize (⟨(openL s.data.toList).1.toArray⟩ : ByteArray) = X at *
  generalize (openL s.data.toList).2 = k at *
  generalize (⟨(frameL t.data.toList).toArray⟩ : ByteArray) = F at *
  have HG := Lib.hid G
  clear G
  go_enter Tryd.func3, Tryd.ntmps3
  go_wp2_with fail
  refine (C0.out _).mono ?_
  rintro e w1 ⟨rfl, rfl⟩
  go_wp2_with fail
  refine (C1.out _).mono ?_
  rintro e w2 ⟨rfl, rfl⟩
  go_wp2_with fail
  refine (OP.out _ HG.out).mono ?_
  rintro e w3 ⟨rfl, hb3⟩
  have HB3 := Lib.hid hb3
  clear hb3 OP
  go_wp2_with fail
  refine (RO.out _).mono ?_
  rintro e w4 ⟨rfl, hb4⟩
  have HB4 := Lib.hid (HB3.out.trans (hb4.mono HB3.out.size))
  clear hb4 HB3 RO
  go_wp2_with fail
  refine (awake_any _ (HG.out.next HB4.out)).mono ?_
  rintro e w5 ⟨rfl, hb5⟩
  have HB5 := Lib.hid (HB4.out.trans (hb5.mono HB4.out.size))
  clear hb5 HB4
  go_wp2_with fail
  refine (FR.out _ (HG.out.next HB5.out)).mono ?_
  rintro e w6 ⟨rfl, hb6⟩
  have HB6 := Lib.hid (HB5.out.trans (hb6.mono HB5.out.size))
  clear hb6 HB5 FR
  go_wp2_with fail
  refine (RF.out _).mono ?_
  rintro e w7 ⟨rfl, hb7⟩
  have HB7 := Lib.hid (HB6.out.trans (hb7.mono HB6.out.size))
  clear hb7 HB6 RF
  go_wp2_with fail
  go_ret
  exact ⟨rfl, HB7.out⟩
end Go.Proofs.YtkoddlfhkgonbaaDoor
