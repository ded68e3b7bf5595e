/-
  THE WALK of the law JournalBack.
-/
import Derived.Test.YtkoddlfhkgonbaaDoorJAwake
namespace Go.Proofs.YtkoddlfhkgonbaaDoor
open Go.RowKit

theorem frame_size {t F : ByteArray} (h : F.data.toList = frameL t.data.toList) (ht : t.size ≤ 1000) : F.size ≤ 1100 ∧ t.data.toList.length ≤ 9223372036854775807 := by
  have h1 := frame_len t.data.toList
  have e1 : F.data.toList.length = F.size := by simp
  have e2 : t.data.toList.length = t.size := by simp
  have e3 := Lib.itoa_length_le (t.size : Int) (by omega) (by omega)
  rw [Lib.itoa_nonneg] at e3
  rw [← h, e1, e2] at h1
  omega
set_option maxHeartbeats 1000000 in
set_option maxRecDepth 100000 in
theorem jback_walk (a0 : ByteArray) (a1 : Int) (a2 : ByteArray) (w0 : a0.size ≤ maxLen) (w1 : (Lit.int .i64 a1).wf = true) (w2 : a2.size ≤ maxLen) (w : World) (G : Gl w) :
    Calls Tryd.prog 4 #[.string a0, .int .i64 a1, .string a2] w fun e w' => e = .returned (.bool true) ∧ Below w.heap.size w w' := by
  have C0 := Lib.hid (fun w => cut_any a0 500 w w0 (by omega))
  have C2 := Lib.hid (fun w => cut_any a2 50 w w2 (by omega))
  have ht := cutB_size a0 500
  have hm := cutB_size a2 50
  generalize cutB a0 500 = t at *
  generalize cutB a2 50 = m at *
  clear w0 w2
  obtain ⟨F, hF⟩ : ∃ F : ByteArray, F.data.toList = frameL t.data.toList := ⟨⟨(frameL t.data.toList).toArray⟩, ba_list _⟩
  obtain ⟨hFz, htl⟩ := frame_size hF (by omega)
  have HFR := Lib.hid (fun w => frame_is t F w (by omega) hF)
  have HOP := Lib.hid (fun w => open_is F t 0 w (by omega) (by rw [hF]; exact open_back _ htl))
  have hmore := open_more t.data.toList m.data.toList htl
  have happ : (F ++ m).data.toList = frameL t.data.toList ++ m.data.toList := by rw [ByteArray.data_append, Array.toList_append, hF]
  have hFml : (F ++ m).size ≤ 2000 := by rw [ByteArray.size_append]; omega
  obtain ⟨X, k, hX⟩ : ∃ (X : ByteArray) (k : Nat), openL (F ++ m).data.toList = (X.data.toList, k) := ⟨⟨(openL (F ++ m).data.toList).1.toArray⟩, _, by rw [ba_list]⟩
  have HOM := Lib.hid (fun w => open_is (F ++ m) X k w (by omega) hX)
  have hk : k = 0 ↔ m.data.toList = [] := by rw [← hmore, ← happ, hX]
  have HCUT := Lib.hid (fun (n : Nat) (hn : n < F.size) w => open_is (F.extract 0 n) ⟨#[]⟩ 2 w (by simp; omega) (by
    have e : (F.extract 0 n).data.toList = (frameL t.data.toList).take n := by rw [← hF]; simp [ByteArray.data_extract]
    rw [e]
    exact open_cut t.data.toList n htl (by rw [← hF]; simpa using hn)))
  have HG := Lib.hid G
  clear hmore happ hX G htl hF hFml
  have fin : ∀ (W0 : World), Gl W0 → Calls Tryd.prog 10 #[] W0 fun e w' => e = .returned (.bool true) ∧ Below W0.heap.size W0 w' := fun W0 g => awake_any W0 g
  have FIN := Lib.hid fin
  clear fin
  have hFb : F.size ≤ 9223372036854775807 := by omega
  by_cases hme : m.data.toList = []
  · obtain rfl : k = 0 := hk.2 hme
    obtain rfl : m = ⟨#[]⟩ := WideShapes.bytes_inj hme
    clear hk hme
    rcases (by omega : a1 < 0 ∨ (F.size : Int) ≤ a1 ∨ (0 ≤ a1 ∧ a1 < F.size)) with hc | hc | ⟨hc0, hc1⟩
    · go_enter Tryd.func4, Tryd.ntmps4
      go_wp2_with fail
      refine (C0.out _).mono ?_
      rintro e w1 ⟨rfl, rfl⟩
      go_wp2_with fail
      refine (C2.out _).mono ?_
      rintro e w2 ⟨rfl, rfl⟩
      go_wp2_with fail
      refine (HFR.out _ HG.out).mono ?_
      rintro e w3 ⟨rfl, hb3⟩
      have HB3 := Lib.hid hb3
      clear hb3 HFR
      go_wp2_with fail
      refine (HOP.out _ (HG.out.next HB3.out)).mono ?_
      rintro e w4 ⟨rfl, hb4⟩
      have HB4 := Lib.hid (HB3.out.trans (hb4.mono HB3.out.size))
      clear hb4 HB3 HOP
      go_wp2_with fail
      refine (HOM.out _ (HG.out.next HB4.out)).mono ?_
      rintro e w5 ⟨rfl, hb5⟩
      have HB5 := Lib.hid (HB4.out.trans (hb5.mono HB4.out.size))
      clear hb5 HB4 HOM
      go_wp2_with fail
      refine (FIN.out _ (HG.out.next HB5.out)).mono ?_
      rintro e w6 ⟨rfl, hb6⟩
      have HB6 := Lib.hid (HB5.out.trans (hb6.mono HB5.out.size))
      clear hb6 HB5 FIN
      go_wp2_with fail
      go_ret
      exact ⟨rfl, HB6.out⟩
    · have hc2 : 0 ≤ a1 := by omega
      go_enter Tryd.func4, Tryd.ntmps4
      go_wp2_with fail
      refine (C0.out _).mono ?_
      rintro e w1 ⟨rfl, rfl⟩
      go_wp2_with fail
      refine (C2.out _).mono ?_
      rintro e w2 ⟨rfl, rfl⟩
      go_wp2_with fail
      refine (HFR.out _ HG.out).mono ?_
      rintro e w3 ⟨rfl, hb3⟩
      have HB3 := Lib.hid hb3
      clear hb3 HFR
      go_wp2_with fail
      refine (HOP.out _ (HG.out.next HB3.out)).mono ?_
      rintro e w4 ⟨rfl, hb4⟩
      have HB4 := Lib.hid (HB3.out.trans (hb4.mono HB3.out.size))
      clear hb4 HB3 HOP
      go_wp2_with fail
      refine (HOM.out _ (HG.out.next HB4.out)).mono ?_
      rintro e w5 ⟨rfl, hb5⟩
      have HB5 := Lib.hid (HB4.out.trans (hb5.mono HB4.out.size))
      clear hb5 HB4 HOM
      go_wp2_with fail
      refine (FIN.out _ (HG.out.next HB5.out)).mono ?_
      rintro e w6 ⟨rfl, hb6⟩
      have HB6 := Lib.hid (HB5.out.trans (hb6.mono HB5.out.size))
      clear hb6 HB5 FIN
      go_wp2_with fail
      go_ret
      exact ⟨rfl, HB6.out⟩
    · obtain ⟨n, rfl⟩ : ∃ n : Nat, a1 = n := ⟨a1.toNat, by omega⟩
      have hn : n < F.size := by omega
      go_enter Tryd.func4, Tryd.ntmps4
      go_wp2_with fail
      refine (C0.out _).mono ?_
      rintro e w1 ⟨rfl, rfl⟩
      go_wp2_with fail
      refine (C2.out _).mono ?_
      rintro e w2 ⟨rfl, rfl⟩
      go_wp2_with fail
      refine (HFR.out _ HG.out).mono ?_
      rintro e w3 ⟨rfl, hb3⟩
      have HB3 := Lib.hid hb3
      clear hb3 HFR
      go_wp2_with fail
      refine (HOP.out _ (HG.out.next HB3.out)).mono ?_
      rintro e w4 ⟨rfl, hb4⟩
      have HB4 := Lib.hid (HB3.out.trans (hb4.mono HB3.out.size))
      clear hb4 HB3 HOP
      go_wp2_with fail
      refine (HOM.out _ (HG.out.next HB4.out)).mono ?_
      rintro e w5 ⟨rfl, hb5⟩
      have HB5 := Lib.hid (HB4.out.trans (hb5.mono HB4.out.size))
      clear hb5 HB4 HOM
      go_wp2_with fail
      refine (HCUT.out n hn _ (HG.out.next HB5.out)).mono ?_
      rintro e w7 ⟨rfl, hb7⟩
      have HB7 := Lib.hid (HB5.out.trans (hb7.mono HB5.out.size))
      clear hb7 HB5 HCUT
      go_wp2_with fail
      refine (FIN.out _ (HG.out.next HB7.out)).mono ?_
      rintro e w6 ⟨rfl, hb6⟩
      have HB6 := Lib.hid (HB7.out.trans (hb6.mono HB7.out.size))
      clear hb6 HB7 FIN
      go_wp2_with fail
      go_ret
      exact ⟨rfl, HB6.out⟩
  · have hk0 : ¬ k = 0 := fun h => hme (hk.1 h)
    have hk1 : ((k : Int) == 0) = false := by simp; omega
    have hk2 : decide ((k : Int) = 0) = false := by simp; omega
    have hm1 : m.toList.isEmpty = false := by rw [Lib.toList_data]; cases h : m.data.toList with | nil => exact absurd h hme | cons _ _ => rfl
    have hm2 : (m.toList == []) = false := by rw [Lib.toList_data]; simpa using hme
    have hm3 : decide (m.toList = []) = false := by rw [Lib.toList_data]; simpa using hme
    have hm4 : ¬ m.toList = [] := by rw [Lib.toList_data]; exact hme
    clear hk hme hk0
    rcases (by omega : a1 < 0 ∨ (F.size : Int) ≤ a1 ∨ (0 ≤ a1 ∧ a1 < F.size)) with hc | hc | ⟨hc0, hc1⟩
    · go_enter Tryd.func4, Tryd.ntmps4
      go_wp2_with fail
      refine (C0.out _).mono ?_
      rintro e w1 ⟨rfl, rfl⟩
      go_wp2_with fail
      refine (C2.out _).mono ?_
      rintro e w2 ⟨rfl, rfl⟩
      go_wp2_with fail
      refine (HFR.out _ HG.out).mono ?_
      rintro e w3 ⟨rfl, hb3⟩
      have HB3 := Lib.hid hb3
      clear hb3 HFR
      go_wp2_with fail
      refine (HOP.out _ (HG.out.next HB3.out)).mono ?_
      rintro e w4 ⟨rfl, hb4⟩
      have HB4 := Lib.hid (HB3.out.trans (hb4.mono HB3.out.size))
      clear hb4 HB3 HOP
      go_wp2_with fail
      refine (HOM.out _ (HG.out.next HB4.out)).mono ?_
      rintro e w5 ⟨rfl, hb5⟩
      have HB5 := Lib.hid (HB4.out.trans (hb5.mono HB4.out.size))
      clear hb5 HB4 HOM
      go_wp2_with fail
      refine (FIN.out _ (HG.out.next HB5.out)).mono ?_
      rintro e w6 ⟨rfl, hb6⟩
      have HB6 := Lib.hid (HB5.out.trans (hb6.mono HB5.out.size))
      clear hb6 HB5 FIN
      go_wp2_with fail
      go_ret
      exact ⟨rfl, HB6.out⟩
    · have hc2 : 0 ≤ a1 := by omega
      go_enter Tryd.func4, Tryd.ntmps4
      go_wp2_with fail
      refine (C0.out _).mono ?_
      rintro e w1 ⟨rfl, rfl⟩
      go_wp2_with fail
      refine (C2.out _).mono ?_
      rintro e w2 ⟨rfl, rfl⟩
      go_wp2_with fail
      refine (HFR.out _ HG.out).mono ?_
      rintro e w3 ⟨rfl, hb3⟩
      have HB3 := Lib.hid hb3
      clear hb3 HFR
      go_wp2_with fail
      refine (HOP.out _ (HG.out.next HB3.out)).mono ?_
      rintro e w4 ⟨rfl, hb4⟩
      have HB4 := Lib.hid (HB3.out.trans (hb4.mono HB3.out.size))
      clear hb4 HB3 HOP
      go_wp2_with fail
      refine (HOM.out _ (HG.out.next HB4.out)).mono ?_
      rintro e w5 ⟨rfl, hb5⟩
      have HB5 := Lib.hid (HB4.out.trans (hb5.mono HB4.out.size))
      clear hb5 HB4 HOM
      go_wp2_with fail
      refine (FIN.out _ (HG.out.next HB5.out)).mono ?_
      rintro e w6 ⟨rfl, hb6⟩
      have HB6 := Lib.hid (HB5.out.trans (hb6.mono HB5.out.size))
      clear hb6 HB5 FIN
      go_wp2_with fail
      go_ret
      exact ⟨rfl, HB6.out⟩
    · obtain ⟨n, rfl⟩ : ∃ n : Nat, a1 = n := ⟨a1.toNat, by omega⟩
      have hn : n < F.size := by omega
      go_enter Tryd.func4, Tryd.ntmps4
      go_wp2_with fail
      refine (C0.out _).mono ?_
      rintro e w1 ⟨rfl, rfl⟩
      go_wp2_with fail
      refine (C2.out _).mono ?_
      rintro e w2 ⟨rfl, rfl⟩
      go_wp2_with fail
      refine (HFR.out _ HG.out).mono ?_
      rintro e w3 ⟨rfl, hb3⟩
      have HB3 := Lib.hid hb3
      clear hb3 HFR
      go_wp2_with fail
      refine (HOP.out _ (HG.out.next HB3.out)).mono ?_
      rintro e w4 ⟨rfl, hb4⟩
      have HB4 := Lib.hid (HB3.out.trans (hb4.mono HB3.out.size))
      clear hb4 HB3 HOP
      go_wp2_with fail
      refine (HOM.out _ (HG.out.next HB4.out)).mono ?_
      rintro e w5 ⟨rfl, hb5⟩
      have HB5 := Lib.hid (HB4.out.trans (hb5.mono HB4.out.size))
      clear hb5 HB4 HOM
      go_wp2_with fail
      refine (HCUT.out n hn _ (HG.out.next HB5.out)).mono ?_
      rintro e w7 ⟨rfl, hb7⟩
      have HB7 := Lib.hid (HB5.out.trans (hb7.mono HB5.out.size))
      clear hb7 HB5 HCUT
      go_wp2_with fail
      refine (FIN.out _ (HG.out.next HB7.out)).mono ?_
      rintro e w6 ⟨rfl, hb6⟩
      have HB6 := Lib.hid (HB7.out.trans (hb6.mono HB7.out.size))
      clear hb6 HB7 FIN
      go_wp2_with fail
      go_ret
      exact ⟨rfl, HB6.out⟩
end Go.Proofs.YtkoddlfhkgonbaaDoor
