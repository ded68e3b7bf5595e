/-
  THE WALK of scribelaw07.FormatPlain: it returns true and writes to nothing that was there.
-/
import Derived.Test.YtciicmmfplnekaaGreatDoorFmtW8
namespace Go.Proofs.YtciicmmfplnekaaGreatDoor
open Go.RowKit

/-- What Print answers of values that Good gathered. -/
theorem gprint (F R : ByteArray) (l : List Ce) (n : Nat) (hF : F.size ≤ 2000) (hn : n ≤ 1000) (e0 : Int) (h : printL F.data.toList [] ((goodL l n).map Ce.va) = (R.data.toList, e0)) (W : World) (q : Option Addr) (c : Nat) (hA : CeAt W q (goodL l n)) (hc : (goodL l n).length ≤ c) (G : Gf W) :
    Calls Tryz.prog 11 #[.string F, .slice q (goodL l n).length c] W fun e w' => e = .returned (.tuple #[.string R, .int .i64 e0]) ∧ Below W.heap.size W w' :=
  (fprint_any F R q c (goodL l n) W hF (by have := goodL_len l n; omega) hc hA goodL_fit G (by rw [h])).mono fun e w' ⟨h1, h2⟩ => ⟨by rw [h] at h1; exact h1, h2⟩
set_option maxRecDepth 100000 in
set_option maxHeartbeats 2000000 in
theorem plain_walk (s : ByteArray) (p : Option Addr) (cap : Nat) (l : List Ce) (w0 : s.size ≤ maxLen) (w : World) (hA : CeAt w p l) (hl : l.length ≤ maxLen) (ht : ∀ t ∈ l, t.s.size ≤ maxLen) (G : Gf w) :
    Calls Tryz.prog 4 #[.string s, .slice p l.length cap] w fun e w' => e = .returned (.bool true) ∧ Below w.heap.size w w' := by
  have C0 : Hid (∀ W, Calls Tryz.prog 9 #[.string s, .int .i64 200] W fun e w' => e = .returned (.string (cutB s 200)) ∧ W = w') := Lib.hid fun W => cut_any s 200 W w0 (by omega)
  have hts := cutB_size s 200
  have htl := ba_sz (cutB s 200)
  generalize cutB s 200 = t at *
  have CA := Lib.hid fun W G => fawake_any W G
  have CG : Hid (Calls Tryz.prog 10 #[.slice p l.length cap, .int .i64 5] w (GdPost (goodL l 5) w)) := Lib.hid (goodrow_any p cap l 5 w hA hl (by omega) ht)
  have CP : Hid ((∀ c ∈ t.data.toList, c ≠ 37) → ∀ W q c, CeAt W q (goodL l 5) → (goodL l 5).length ≤ c → Gf W → Calls Tryz.prog 11 #[.string t, .slice q (goodL l 5).length c] W fun e w' => e = .returned (.tuple #[.string t, .int .i64 0]) ∧ Below W.heap.size W w') :=
    Lib.hid fun h W q c hA hc G => gprint t t l 5 (by omega) (by omega) 0 (printL_plain _ h _ (by omega)) W q c hA hc G
  have HG := Lib.hid G
  clear G hA ht hl w0 htl
  generalize goodL l 5 = gl at *
  go_enter Tryz.func4, Tryz.ntmps4
  go_wp2_with (first
    | ((with_reducible refine (C0.out _).mono ?_); rintro e w' ⟨rfl, rfl⟩))
  go_loop [5] (fun i => ∃ k : Nat, k ≤ t.size ∧ i = .int .i64 k ∧ Hid (∀ c ∈ t.data.toList.take k, c ≠ 37)) (fun i => t.size - (intOf i).toNat)
  case atStart => exact ⟨0, Nat.zero_le _, rfl, Lib.hid (by simp)⟩
  case round =>
    obtain ⟨k, hk, rfl, HK⟩ := hrel
    by_cases hlt : k < t.size
    · by_cases h37 : (t[k].toNat : Int) = 37
      · go_wp2_with fail
        refine (CA.out _ HG.out).mono ?_
        rintro e w1 ⟨rfl, hb1⟩
        go_wp2_with fail
        go_ret
        exact ⟨rfl, hb1⟩
      · have HN : Hid (∀ c ∈ t.data.toList.take (k + 1), c ≠ 37) := Lib.hid (by
          rw [take_snoc t k hlt]
          intro c hc
          rcases List.mem_append.1 hc with hc | hc
          · exact HK.out c hc
          · rw [List.mem_singleton.1 hc]; exact fun h => h37 (by rw [h]; rfl))
        clear HK
        go_wp2_with fail
        go_round
        case rel => exact ⟨k + 1, by omega, by go_num, HN⟩
        case measure => simp [intOf]; omega
    · have CP := Lib.hid (CP.out (fun c hc => HK.out c (by rwa [List.take_of_length_le (by simp; omega)])))
      go_wp2_with fail
      (with_reducible refine CG.out.mono ?_)
      rintro e w1 ⟨g, c, rfl, hCe, hc, hb1⟩
      have HB1 := Lib.hid hb1
      have HC := Lib.hid (And.intro hCe hc)
      clear hb1 hCe hc
      go_wp2_with fail
      refine (CP.out _ _ _ HC.out.1 HC.out.2 (HG.out.next HB1.out)).mono ?_
      rintro e w2 ⟨rfl, hb2⟩
      have HB2 := Lib.hid (HB1.out.trans (hb2.mono HB1.out.size))
      clear hb2 HB1 HC
      go_wp2_with fail
      refine (CA.out _ (HG.out.next HB2.out)).mono ?_
      rintro e w3 ⟨rfl, hb3⟩
      have HB3 := Lib.hid (HB2.out.trans (hb3.mono HB2.out.size))
      clear hb3 HB2
      go_wp2_with fail
      go_ret
      exact ⟨rfl, HB3.out⟩
end Go.Proofs.YtciicmmfplnekaaGreatDoor
