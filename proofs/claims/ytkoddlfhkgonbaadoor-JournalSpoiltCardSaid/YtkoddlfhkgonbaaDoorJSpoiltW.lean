/-
  THE WALK of the law JournalSpoilt.
-/
import Derived.Test.YtkoddlfhkgonbaaDoorJBackW
import Derived.Test.YtkoddlfhkgonbaaDoorChange1
import Derived.Deep.QuietTactic
import Derived.BigQuiet
import Derived.IntWalk
import Derived.Deep.RegionWith
namespace Go.Proofs.YtkoddlfhkgonbaaDoor
open Go.RowKit

set_option maxHeartbeats 2000000 in
set_option maxRecDepth 100000 in
theorem jspoilt_walk (a0 : ByteArray) (a1 a2 : Int) (w0 : a0.size ≤ maxLen) (w1 : (Lit.int .i64 a1).wf = true) (w2 : (Lit.int .u8 a2).wf = true) (w : World) (G : Gl w) :
    Calls Tryd.prog 5 #[.string a0, .int .i64 a1, .int .u8 a2] w fun e w' => e = .returned (.bool true) ∧ Below w.heap.size w w' := by
  have C0 := Lib.hid (fun w => cut_any a0 450 w w0 (by omega))
  have ht := cutB_size a0 450
  generalize cutB a0 450 = t at *
  clear w0
  obtain ⟨F, hF⟩ : ∃ F : ByteArray, F.data.toList = frameL t.data.toList := ⟨⟨(frameL t.data.toList).toArray⟩, ba_list _⟩
  obtain ⟨hFz, htl⟩ := frame_size hF (by omega)
  have HFR := Lib.hid (fun w => frame_is t F w (by omega) hF)
  have HG := Lib.hid G
  have FIN := Lib.hid (fun (W0 : World) (g : Gl W0) => awake_any W0 g)
  have g2 := bounds_u8 w2
  obtain ⟨c, rfl⟩ : ∃ c : Nat, a2 = c := ⟨a2.toNat, by omega⟩
  have hc : c < 256 := by omega
  have HF := Lib.hid hF
  clear G hF htl
  rcases (by omega : a1 < 0 ∨ (F.size : Int) ≤ a1 ∨ (0 ≤ a1 ∧ a1 < F.size)) with hr | hr | ⟨hr0, hr1⟩
  · go_enter Tryd.func5, Tryd.ntmps5
    go_wp2_with fail
    refine (C0.out _).mono ?_
    rintro e w1 ⟨rfl, rfl⟩
    go_wp2_with fail
    refine (HFR.out _ HG.out).mono ?_
    rintro e w3 ⟨rfl, hb3⟩
    have HB3 := Lib.hid hb3
    clear hb3 HFR
    go_wp2_with fail
    refine (FIN.out _ (HG.out.next HB3.out)).mono ?_
    rintro e w6 ⟨rfl, hb6⟩
    have HB6 := Lib.hid (HB3.out.trans (hb6.mono HB3.out.size))
    clear hb6 HB3 FIN
    go_wp2_with fail
    go_ret
    exact ⟨rfl, HB6.out⟩
  · have hr0 : 0 ≤ a1 := by omega
    go_enter Tryd.func5, Tryd.ntmps5
    go_wp2_with fail
    refine (C0.out _).mono ?_
    rintro e w1 ⟨rfl, rfl⟩
    go_wp2_with fail
    refine (HFR.out _ HG.out).mono ?_
    rintro e w3 ⟨rfl, hb3⟩
    have HB3 := Lib.hid hb3
    clear hb3 HFR
    go_wp2_with fail
    refine (FIN.out _ (HG.out.next HB3.out)).mono ?_
    rintro e w6 ⟨rfl, hb6⟩
    have HB6 := Lib.hid (HB3.out.trans (hb6.mono HB3.out.size))
    clear hb6 HB3 FIN
    go_wp2_with fail
    go_ret
    exact ⟨rfl, HB6.out⟩
  · obtain ⟨k, rfl⟩ : ∃ k : Nat, a1 = k := ⟨a1.toNat, by omega⟩
    have hk : k < F.size := by omega
    by_cases hq : F[k].toNat = c
    · subst hq
      go_enter Tryd.func5, Tryd.ntmps5
      go_wp2_with fail
      refine (C0.out _).mono ?_
      rintro e w1 ⟨rfl, rfl⟩
      go_wp2_with fail
      refine (HFR.out _ HG.out).mono ?_
      rintro e w3 ⟨rfl, hb3⟩
      have HB3 := Lib.hid hb3
      clear hb3 HFR
      go_wp2_with fail
      refine (FIN.out _ (HG.out.next HB3.out)).mono ?_
      rintro e w6 ⟨rfl, hb6⟩
      have HB6 := Lib.hid (HB3.out.trans (hb6.mono HB3.out.size))
      clear hb6 HB3 FIN
      go_wp2_with fail
      go_ret
      exact ⟨rfl, HB6.out⟩
    · have q1 : ((F[k].toNat : Int) == (c : Int)) = false := by simp; omega
      have q2 : decide ((F[k].toNat : Int) = (c : Int)) = false := by simp; omega
      have hk1 : (k : Int) + 1 ≤ (F.size : Int) := by omega
      have hk2 : k ≤ F.size := by omega
      have hk3 : k + 1 ≤ F.size := by omega
      obtain ⟨hl, hu⟩ := changed_at F k (UInt8.ofNat c) hk
      generalize hU : F.extract 0 k ++ (⟨#[UInt8.ofNat c]⟩ : ByteArray) ++ F.extract (k + 1) F.size = U at hu
      have hbad : (openL U.data.toList).2 ≠ 0 := by
        rw [hu]
        refine open_spoilt t.data.toList _ _ F[k] (UInt8.ofNat c) (by rw [← HF.out]; exact hl) (fun e => hq ?_)
        rw [← e, UInt8.toNat_ofNat_of_lt' hc]
      have hUz : U.size ≤ 100000 := by
        have h1 := congrArg List.length hu
        have h2 := congrArg List.length hl
        simp only [Array.length_toList, List.length_append, List.length_cons, ByteArray.size_data] at h1 h2
        omega
      obtain ⟨x, hx⟩ : ∃ x : Nat, (openL U.data.toList).2 = x := ⟨_, rfl⟩
      have OP := Lib.hid (fun w => open_is U ⟨#[]⟩ x w hUz (by rw [← hx, ← open_err _ hbad]))
      have x1 : ((x : Int) == 0) = false := by rw [hx] at hbad; simp; omega
      have x2 : ((x : Int) != 0) = true := by rw [hx] at hbad; simp; omega
      have x3 : decide ((x : Int) = 0) = false := by rw [hx] at hbad; simp; omega
      have HU := Lib.hid hU
      clear hl hu hbad hUz hx hU hq ht
      go_enter Tryd.func5, Tryd.ntmps5
      go_wp2_with fail
      refine (C0.out _).mono ?_
      rintro e w1 ⟨rfl, rfl⟩
      go_wp2_with fail
      refine (HFR.out _ HG.out).mono ?_
      rintro e w3 ⟨rfl, hb3⟩
      have HB3 := Lib.hid hb3
      have GN : Gl ((w3.alloc (.cells #[.int .u8 c] 5)).drew) := by
        have g := (HG.out.next hb3).next ((Below.refl _ _).alloc (Nat.le_refl _) (.cells #[.int .u8 c] 5))
        exact g.next ⟨rfl, rfl, rfl, Nat.le_refl _, fun _ _ => rfl⟩
      have HGN := Lib.hid GN
      clear hb3 HFR GN
      have hcv := conv1 c hc ⟨w3.heap.size, 0, none⟩ ((w3.alloc (.cells #[.int .u8 c] 5)).drew) (by simp [go_sem])
      have s1 : IntKind.i64.wrap ((k : Int) + 1) = (k : Int) + 1 := IntWalk.i64_in _ (by omega)
      have s2 : (0 : Int) ≤ (k : Int) + 1 := by omega
      have s3 : ((k : Int) + 1).toNat = k + 1 := by omega
      go_wp2_with fail
      go_region_with ((go_at_call 8; rw [HU.out]; refine (OP.out _ HGN.out).mono ?_; rintro e w7 ⟨rfl, hb7⟩))
      have hb8 : Below w.heap.size w w7 := (((HB3.out.alloc HB3.out.size _).drew).trans (hb7.mono (Nat.le_trans HB3.out.size (by simp))))
      have HB7 := Lib.hid hb8
      clear hb8 hb7 s1 s2 s3 hcv HB3 HGN
      go_wp2_with fail
      refine (FIN.out _ (HG.out.next HB7.out)).mono ?_
      rintro e w6 ⟨rfl, hb6⟩
      have HB6 := Lib.hid (HB7.out.trans (hb6.mono HB7.out.size))
      clear hb6 HB7 FIN
      go_wp2_with fail
      go_ret
      exact ⟨rfl, HB6.out⟩
end Go.Proofs.YtkoddlfhkgonbaaDoor
