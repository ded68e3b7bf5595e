/-
  THE WALK of scribelaw07.FormatWide, whole: it returns true and writes to nothing that was there.
-/
import Derived.Test.YtciicmmfplnekaaGreatDoorFWideW
namespace Go.Proofs.YtciicmmfplnekaaGreatDoor
open Go.RowKit

set_option maxRecDepth 100000 in
set_option maxHeartbeats 4000000 in
theorem wide_out (left zero : Bool) (n : Int) (v : Int) (k nn : Int) (s : ByteArray) (hs : s.size ≤ maxLen) (w : World) (G : Gf w) (gl : List Ce) (hgl : goodL [⟨k, nn, s⟩] 1 = gl) (h : n < 0 ∨ 100 < n ∨ gl = []) :
    Calls Tryz.prog 6 #[.bool left, .bool zero, .int .i64 n, .int .u8 v, cv k nn s] w fun e w' => e = .returned (.bool true) ∧ Below w.heap.size w w' := by
  have CA := Lib.hid fun W G => fawake_any W G
  have HG := Lib.hid G
  have CG : Hid (∀ W p, CeAt W p [⟨k, nn, s⟩] → Calls Tryz.prog 10 #[.slice p 1 1, .int .i64 1] W (GdPost gl W)) :=
    Lib.hid fun W p hA => by rw [← hgl]; exact goodrow_any p 1 [⟨k, nn, s⟩] 1 W hA (by show 1 ≤ maxLen; decide) (by omega) (fun t ht => by rw [List.mem_singleton.1 ht]; exact hs)
  have HCE := Lib.hid (ce_alloc (w.alloc (.cells #[.int .i64 k, .int .i64 nn, .string s] 36)) [⟨k, nn, s⟩] #[.int .i64 k, .int .i64 nn, .string s] rfl)
  rw [World.size_alloc] at HCE
  have HB0 := Lib.hid (((Below.refl w.heap.size w).alloc (Nat.le_refl _) (.cells #[.int .i64 k, .int .i64 nn, .string s] 36)).alloc (by simp) (.cells #[.int .i64 k, .int .i64 nn, .string s] 36))
  clear hs hgl G
  unfold cv
  by_cases h1 : n < 0
  · clear h
    go_enter Tryz.func6, Tryz.ntmps6
    go_wp2_with fail
    (with_reducible refine (CG.out _ _ HCE.out).mono ?_)
    rintro e w1 ⟨g, c, rfl, hCe, hc, hb1⟩
    have HB1 := Lib.hid (HB0.out.trans (hb1.mono HB0.out.size))
    clear hb1 hCe hc HCE HB0
    go_wp2_with fail
    (with_reducible refine (CA.out _ (HG.out.next HB1.out)).mono ?_)
    rintro e w4 ⟨rfl, hb4⟩
    have HB4 := Lib.hid (HB1.out.trans (hb4.mono HB1.out.size))
    clear hb4 HB1
    go_wp2_with fail
    go_ret
    exact ⟨rfl, HB4.out⟩
  by_cases h2 : 100 < n
  · clear h
    go_enter Tryz.func6, Tryz.ntmps6
    go_wp2_with fail
    (with_reducible refine (CG.out _ _ HCE.out).mono ?_)
    rintro e w1 ⟨g, c, rfl, hCe, hc, hb1⟩
    have HB1 := Lib.hid (HB0.out.trans (hb1.mono HB0.out.size))
    clear hb1 hCe hc HCE HB0
    go_wp2_with fail
    (with_reducible refine (CA.out _ (HG.out.next HB1.out)).mono ?_)
    rintro e w4 ⟨rfl, hb4⟩
    have HB4 := Lib.hid (HB1.out.trans (hb4.mono HB1.out.size))
    clear hb4 HB1
    go_wp2_with fail
    go_ret
    exact ⟨rfl, HB4.out⟩
  · have h3 : gl = [] := by rcases h with h | h | h; exact absurd h h1; exact absurd h h2; exact h
    subst h3
    clear h
    go_enter Tryz.func6, Tryz.ntmps6
    go_wp2_with fail
    (with_reducible refine (CG.out _ _ HCE.out).mono ?_)
    rintro e w1 ⟨g, c, rfl, hCe, hc, hb1⟩
    have HB1 := Lib.hid (HB0.out.trans (hb1.mono HB0.out.size))
    clear hb1 hCe hc HCE HB0
    go_wp2_with fail
    (with_reducible refine (CA.out _ (HG.out.next HB1.out)).mono ?_)
    rintro e w4 ⟨rfl, hb4⟩
    have HB4 := Lib.hid (HB1.out.trans (hb4.mono HB1.out.size))
    clear hb4 HB1
    go_wp2_with fail
    go_ret
    exact ⟨rfl, HB4.out⟩
theorem wide_law (left zero : Bool) (n : Int) (v : Int) (k nn : Int) (s : ByteArray) (hv : (Lit.int .u8 v).wf = true) (hs : s.size ≤ maxLen) (w : World) (G : Gf w) :
    Calls Tryz.prog 6 #[.bool left, .bool zero, .int .i64 n, .int .u8 v, cv k nn s] w fun e w' => e = .returned (.bool true) ∧ Below w.heap.size w w' := by
  have hv2 : 0 ≤ v ∧ v ≤ 255 := by
    simp [Lit.wf, IntKind.min, IntKind.max, IntKind.signed, IntKind.bits] at hv
    exact hv
  by_cases hg : goodB (Ce.cut ⟨k, nn, s⟩) = true
  · by_cases hn : 0 ≤ n ∧ n ≤ 100
    · have e : v = ((UInt8.ofNat v.toNat).toNat : Int) := by
        rw [UInt8.toNat_ofNat_of_lt' (by show v.toNat < 256; omega)]; omega
      rw [e]
      exact wide_in left zero n n.toNat (by omega) (UInt8.ofNat v.toNat) k nn s hs (by omega) w G hg
    · exact wide_out left zero n v k nn s hs w G _ rfl (by omega)
  · exact wide_out left zero n v k nn s hs w G _ rfl (.inr (.inr (by rw [goodL_one, if_neg hg])))
end Go.Proofs.YtciicmmfplnekaaGreatDoor
