/-
  THE WALK of scribelaw05.NumTexts: it returns true, and nothing that was there is written.
-/
import Derived.Test.YtmgnfmngihckmaaDoorBackNW
import Derived.Test.YtmgnfmngihckmaaDoorRef5L
namespace Go.Proofs.YtmgnfmngihckmaaDoor
open Go.RowKit

set_option maxHeartbeats 4000000 in
theorem numtexts_walk (a : Int) (s0 : ByteArray) (_w0 : (Lit.int .i64 a).wf = true) (w1 : s0.size ≤ maxLen) (w : World) (G : Gl w) :
    Calls Tryd.prog 4 #[.int .i64 a, .string s0] w fun e w' => e = .returned (.bool true) ∧ Below w.heap.size w w' := by
  have HG := Lib.hid G
  clear G
  have AW := Lib.hid fun W => awake_any W
  have C0 : Hid (∀ W, Calls Tryd.prog 25 #[.string s0, .int .i64 100] W fun e w' => e = .returned (.string (cutB s0 100)) ∧ W = w') := Lib.hid fun W => cut_any s0 100 W w1 (by omega)
  have hs := cutB_size s0 100
  generalize cutB s0 100 = s at *
  have c1 := fun W => prefix_any s W (by omega)
  have c2 := fun W => rprefix_any s W (by omega)
  have c3 := fun W => looks_any s W (by omega)
  have c4 := fun W => rlooks_any s W (by omega)
  unfold P5 at c2
  obtain ⟨v, hv⟩ : ∃ v, (prefixL s.data.toList).1 = v := ⟨_, rfl⟩
  obtain ⟨k, hk⟩ : ∃ k, (prefixL s.data.toList).2 = k := ⟨_, rfl⟩
  obtain ⟨v2, hv2⟩ : ∃ v, (looksL s.data.toList).1 = v := ⟨_, rfl⟩
  obtain ⟨o2, ho2⟩ : ∃ v, (looksL s.data.toList).2 = v := ⟨_, rfl⟩
  rw [hv, hk] at c1 c2
  rw [hv2, ho2] at c3 c4
  have hks : k ≤ s.size := by have := prefix_le s.data.toList; rw [hk] at this; simpa using this
  have hki : (k : Int) ≤ 100 := by omega
  have C1 := Lib.hid c1
  have C2 := Lib.hid c2
  have C3 := Lib.hid c3
  have C4 := Lib.hid c4
  clear c1 c2 c3 c4 hv hk hv2 ho2
  by_cases ha : OkN a
  · have fa := Lib.hid fun W => fit_yes a W ha
    obtain ⟨S, hS, hSs⟩ := has_ba (textL a)
    have hlen := text_len a ha
    have t1 : Hid (∀ W, Gl W → Calls Tryd.prog 30 #[.int .i64 a] W fun e w' => e = .returned (.string S) ∧ Below W.heap.size W w') := Lib.hid fun W G => (text_any a W ha G).mono fun e w' ⟨h1, h2⟩ => ⟨by rw [h1]; exact ret_s (ba_of _ _ hS).symm, h2⟩
    have t2 : Hid (∀ W, Calls Tryd.prog 31 #[.int .i64 a] W fun e w' => e = .returned (.string S) ∧ Below W.heap.size W w') := Lib.hid fun W => (rtext_any a W ha).mono fun e w' ⟨h1, h2⟩ => ⟨by rw [h1]; exact ret_s (ba_of _ _ hS).symm, h2⟩
    have hSb : S.size ≤ 40 := by omega
    clear hS hSs hlen
    go_enter Tryd.func4, Tryd.ntmps4
    go_wp2_with ((with_reducible refine (C0.out _).mono ?_); rintro e w' ⟨rfl, rfl⟩)
    refine (C1.out _).mono ?_
    rintro e w1 ⟨rfl, hb1⟩
    have HB1 := Lib.hid hb1
    clear hb1
    go_wp2_with fail
    refine (C2.out _).mono ?_
    rintro e w2 ⟨rfl, rfl⟩
    go_wp2_with fail
    refine (C3.out _).mono ?_
    rintro e w3 ⟨rfl, hb3⟩
    have HB3 := Lib.hid (HB1.out.trans (hb3.mono HB1.out.size))
    clear hb3 HB1
    go_wp2_with fail
    refine (C4.out _).mono ?_
    rintro e w4 ⟨rfl, rfl⟩
    go_wp2_with fail
    refine (AW.out _ (HG.out.next HB3.out)).mono ?_
    rintro e w5 ⟨rfl, hb5⟩
    have HB5 := Lib.hid (HB3.out.trans (hb5.mono HB3.out.size))
    clear hb5 HB3
    go_wp2_with ((with_reducible refine (fa.out _).mono ?_); rintro e w' ⟨rfl, rfl⟩)
    refine (t1.out _ (HG.out.next HB5.out)).mono ?_
    rintro e w6 ⟨rfl, hb6⟩
    have HB6 := Lib.hid (HB5.out.trans (hb6.mono HB5.out.size))
    clear hb6 HB5
    go_wp2_with fail
    refine (t2.out _).mono ?_
    rintro e w7 ⟨rfl, hb7⟩
    have HB7 := Lib.hid (HB6.out.trans (hb7.mono HB6.out.size))
    clear hb7 HB6
    go_wp2_with fail
    go_ret
    exact ⟨rfl, HB7.out⟩
  · have fa := Lib.hid fun W => fit_no a W ha
    go_enter Tryd.func4, Tryd.ntmps4
    go_wp2_with ((with_reducible refine (C0.out _).mono ?_); rintro e w' ⟨rfl, rfl⟩)
    refine (C1.out _).mono ?_
    rintro e w1 ⟨rfl, hb1⟩
    have HB1 := Lib.hid hb1
    clear hb1
    go_wp2_with fail
    refine (C2.out _).mono ?_
    rintro e w2 ⟨rfl, rfl⟩
    go_wp2_with fail
    refine (C3.out _).mono ?_
    rintro e w3 ⟨rfl, hb3⟩
    have HB3 := Lib.hid (HB1.out.trans (hb3.mono HB1.out.size))
    clear hb3 HB1
    go_wp2_with fail
    refine (C4.out _).mono ?_
    rintro e w4 ⟨rfl, rfl⟩
    go_wp2_with fail
    refine (AW.out _ (HG.out.next HB3.out)).mono ?_
    rintro e w5 ⟨rfl, hb5⟩
    have HB5 := Lib.hid (HB3.out.trans (hb5.mono HB3.out.size))
    clear hb5 HB3
    go_wp2_with ((with_reducible refine (fa.out _).mono ?_); rintro e w' ⟨rfl, rfl⟩)
    go_ret
    exact ⟨rfl, HB5.out⟩
end Go.Proofs.YtmgnfmngihckmaaDoor
