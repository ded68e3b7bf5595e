/-
  THE WALK of MatchWhole: what is found lies in the text, and is all of the pattern.
-/
import Derived.Test.YtjjejcgpeefclaaDoorMtL2
import Derived.Test.YtjjejcgpeefclaaDoorCutA
import Derived.Lib.AppendStr
import Derived.Deep.DeepCutAuto
namespace Go.Proofs.YtjjejcgpeefclaaDoor
open Go.RowKit

theorem pattern_any (s0 : ByteArray) (h : s0.size ≤ maxLen) (w : World) : Calls Tryd.prog 10 #[.string s0] w fun e w' => e = .returned (.string (cutB s0 40)) ∧ w = w' := by
  have C0 := Lib.hid (cut_any s0 40 w h (by omega))
  clear h
  go_enter Tryd.func10, Tryd.ntmps10
  go_wp2_with fail
  refine C0.out.mono ?_
  rintro e w1 ⟨rfl, rfl⟩
  go_wp2_with fail
  go_ret
  exact ⟨rfl, rfl⟩
/-- The first k bytes ask neither for the text's beginning nor for its end. -/
def NoU (s : ByteArray) (k : Nat) : Prop := ∀ j (h : j < s.size), j < k → s[j] ≠ 94 ∧ s[j] ≠ 36
theorem NoU.zero (s : ByteArray) : NoU s 0 := fun j _ h => by omega
theorem NoU.next {s : ByteArray} {k : Nat} (h : NoU s k) (hk : k < s.size) (h1 : s[k] ≠ 94) (h2 : s[k] ≠ 36) : NoU s (k + 1) := fun j hj hlt => by
  by_cases e : j = k
  · subst e; exact ⟨h1, h2⟩
  · exact h j hj (by omega)
theorem NoU.all {s : ByteArray} (h : NoU s s.size) : NoB s.data.toList := fun c hc => by
  obtain ⟨j, hj, rfl⟩ := List.getElem_of_mem hc
  have hj2 : j < s.size := by simpa using hj
  exact h j hj2 hj2
set_option maxHeartbeats 4000000 in
set_option maxRecDepth 100000 in
theorem whole_walk (s0 t0 : ByteArray) (fr : Int) (hs : s0.size ≤ maxLen) (ht : t0.size ≤ maxLen) (hfr : -9223372036854775808 ≤ fr ∧ fr ≤ 9223372036854775807) (w : World) (hdz : Dz w) :
    Calls Tryd.prog 5 #[.string s0, .string t0, .int .i64 fr] w fun e w' => e = .returned (.bool true) ∧ Below w.heap.size w w' := by
  have CS := Lib.hid fun Z => pattern_any s0 hs Z
  have CT := Lib.hid fun Z => cut_any t0 40 Z ht (by omega)
  have hss := cutB_size s0 40
  have hts := cutB_size t0 40
  generalize cutB s0 40 = s at *
  generalize cutB t0 40 = t at *
  have HDZ := Lib.hid hdz
  have HFR := Lib.hid hfr
  have CAW := Lib.hid fun Z (hz : Dz Z) => mawake_any Z hz
  clear hs ht hdz hfr
  go_enter Tryd.func5, Tryd.ntmps5
  go_wp2_with fail
  refine (CS.out _).mono ?_
  rintro e w1 ⟨rfl, rfl⟩
  go_wp2_with fail
  refine (CT.out _).mono ?_
  rintro e w1 ⟨rfl, rfl⟩
  clear CS CT
  go_wp2_with fail
  go_loopw [7] (fun iv wr => ∃ k : Nat, k ≤ s.size ∧ iv = .int .i64 (k : Int) ∧ Hid (NoU s k) ∧ w = wr) (fun iv _ => s.size - (intOf iv).toNat)
  case atStart => exact ⟨0, Nat.zero_le _, rfl, Lib.hid (NoU.zero s), rfl⟩
  case round =>
    obtain ⟨k, hk, rfl, HN, rfl⟩ := hrel
    by_cases hlt : k < s.size
    · obtain ⟨c, hc⟩ : ∃ c, s[k] = c := ⟨_, rfl⟩
      have hcb := c.toNat_lt
      have CAW3 := Lib.hid (CAW.out w HDZ.out)
      by_cases h94 : c = 94
      · have e94 : ((c.toNat : Int) == 94) = true := by subst h94; rfl
        go_wp2_with fail
        refine CAW3.out.mono ?_
        rintro e w5 ⟨rfl, hb5⟩
        have HB5 := Lib.hid hb5
        clear hb5
        go_wp2_with fail
        go_ret
        exact ⟨rfl, HB5.out⟩
      · have e94 : ((c.toNat : Int) == 94) = false := by
          rw [Bool.eq_false_iff]; intro h
          have := eq_of_beq h
          exact h94 (UInt8.toNat_inj.1 (by show c.toNat = 94; omega))
        by_cases h36 : c = 36
        · have e36 : ((c.toNat : Int) == 36) = true := by subst h36; rfl
          go_wp2_with fail
          refine CAW3.out.mono ?_
          rintro e w5 ⟨rfl, hb5⟩
          have HB5 := Lib.hid hb5
          clear hb5
          go_wp2_with fail
          go_ret
          exact ⟨rfl, HB5.out⟩
        · have e36 : ((c.toNat : Int) == 36) = false := by
            rw [Bool.eq_false_iff]; intro h
            have := eq_of_beq h
            exact h36 (UInt8.toNat_inj.1 (by show c.toNat = 36; omega))
          have HN2 := Lib.hid (HN.out.next hlt (by rw [hc]; exact h94) (by rw [hc]; exact h36))
          clear CAW3 HN
          go_wp2_with fail
          go_roundw
          case rel => exact ⟨k + 1, by omega, by go_num, HN2, trivial⟩
          case measure => simp [intOf]; omega
    · have hki : ¬ (k : Int) < (s.size : Int) := by omega
      obtain rfl : k = s.size := by omega
      have HNB := Lib.hid HN.out.all
      have CO1 := Lib.hid (mof_any s (by omega) w HDZ.out)
      clear HN hk hlt
      go_wp2_with fail
      refine CO1.out.mono ?_
      rintro e w2 ⟨hb2, h2⟩
      have HB2 := Lib.hid hb2
      have HZ2 := Lib.hid (HDZ.out.next hb2)
      clear CO1
      rcases h2 with ⟨t1, r1, d1, ht1, rfl, hpg1⟩ | ⟨n1, k1, ht1, hk1, hn1, rfl⟩
      · have HPG1 := Lib.hid hpg1
        have HT1 := Lib.hid ht1
        have HNE := Lib.hid (top_no HNB.out ht1)
        have HTW := Lib.hid (top_whole ht1)
        have hcat : ((⟨#[94, 40]⟩ : ByteArray) ++ s ++ (⟨#[41, 36]⟩ : ByteArray)).data.toList = 94 :: 40 :: (s.data.toList ++ [41, 36]) := by simp
        have hsz : ((⟨#[94, 40]⟩ : ByteArray) ++ s ++ (⟨#[41, 36]⟩ : ByteArray)).size ≤ 300 := by
          have e1 : ByteArray.size ⟨#[94, 40]⟩ = 2 := rfl
          have e2 : ByteArray.size ⟨#[41, 36]⟩ = 2 := rfl
          rw [ByteArray.size_append, ByteArray.size_append]; omega
        have CO2 := Lib.hid (mof_any _ hsz w2 HZ2.out)
        have HC := Lib.hid hcat
        clear hb2 hpg1 ht1 hcat hsz
        go_wp2_with fail
        refine CO2.out.mono ?_
        rintro e w3 ⟨hb3, h3⟩
        have HB3 := Lib.hid (HB2.out.trans (hb3.mono HB2.out.size))
        have HZ3 := Lib.hid (HZ2.out.next hb3)
        have HPG13 := Lib.hid (HPG1.out.next hb3)
        clear CO2 HB2 HZ2 HPG1
        rcases h3 with ⟨t2, r2, d2, ht2, rfl, hpg2⟩ | ⟨n2, k2, ht2, hk2, hn2, rfl⟩
        · have he2 : t2 = wholeT t1 := by
            rw [HC.out] at ht2
            rcases HTW.out with h | ⟨p, h⟩
            · rw [h] at ht2; injection ht2 with h; exact (Prod.mk.inj h).1.symm
            · rw [h] at ht2; cases ht2
          subst he2
          have HPG2 := Lib.hid hpg2
          have CF := Lib.hid (mFind_any t (by omega) fr HFR.out HPG13.out)
          clear hb3 hpg2 ht2 HC HTW HPG13
          go_wp2_with fail
          refine CF.out.mono ?_
          rintro e w4 ⟨r, rfl, hr, hb4⟩
          have HB4 := Lib.hid (HB3.out.trans (hb4.mono HB3.out.size))
          have HZ4 := Lib.hid (HZ3.out.next hb4)
          have HPG24 := Lib.hid (HPG2.out.next hb4)
          have HR := Lib.hid hr
          have CAW4 := Lib.hid (CAW.out w4 HZ4.out)
          clear hb4 hr CF HB3 HZ3 HPG2
          cases r with
          | none =>
            simp only [fndV]
            go_wp2_with fail
            refine CAW4.out.mono ?_
            rintro e w5 ⟨rfl, hb5⟩
            have HB5 := Lib.hid (HB4.out.trans (hb5.mono HB4.out.size))
            clear hb5
            go_wp2_with fail
            go_ret
            exact ⟨rfl, HB5.out⟩
          | some q =>
            obtain ⟨i, j⟩ := q
            have hfi : 0 ≤ fr ∧ fr ≤ (t.size : Int) := by
              have := HR.out
              unfold FdIs at this
              split at this
              · assumption
              · cases this
            have hri : FndIs t t1 fr.toNat (some (i, j)) := by
              have := HR.out
              unfold FdIs at this
              rwa [if_pos hfi] at this
            obtain ⟨h1, h2, _, _⟩ := hri
            have hij := h2.le
            have hjt := h2.1
            have e1 : fr ≤ (i : Int) := by omega
            have e2 : (i : Int) ≤ (j : Int) := by omega
            have e3 : (j : Int) ≤ (t.size : Int) := by omega
            have HM := Lib.hid h2
            clear h1 h2 HR
            simp only [fndV]
            go_wp2_with fail
            refine CAW4.out.mono ?_
            rintro e w5 ⟨rfl, hb5⟩
            have HB5 := Lib.hid (HB4.out.trans (hb5.mono HB4.out.size))
            have HPG25 := Lib.hid (HPG24.out.next hb5)
            have CI := Lib.hid (mIn_any (t.extract i j) (by simp; omega) HPG25.out)
            have HIN : Hid (InIs (t.extract i j) (wholeT t1)) := Lib.hid (met_whole.2 ((met_part HNE.out hij hjt (by simp [List.drop_take])).2 HM.out))
            clear hb5 HB4 HPG24 HPG25 CAW4
            go_wp2_with fail
            refine CI.out.mono ?_
            rintro e w6 ⟨b, rfl, hb, hb6⟩
            have HB6 := Lib.hid (HB5.out.trans (hb6.mono HB5.out.size))
            obtain rfl : b = true := hb.2 HIN.out
            clear hb hb6 HB5
            go_wp2_with fail
            go_ret
            exact ⟨rfl, HB6.out⟩
        · obtain rfl : k2 = 14 := by
            rw [HC.out] at ht2
            rcases HTW.out with h | ⟨p, h⟩
            · rw [h] at ht2; cases ht2
            · rw [h] at ht2; injection ht2 with h; exact (Prod.mk.inj h).2.symm
          have CAW3 := Lib.hid (CAW.out w3 HZ3.out)
          clear hb3 ht2 hk2 hn2
          go_wp2_with fail
          refine CAW3.out.mono ?_
          rintro e w5 ⟨rfl, hb5⟩
          have HB5 := Lib.hid (HB3.out.trans (hb5.mono HB3.out.size))
          clear hb5
          go_wp2_with fail
          go_ret
          exact ⟨rfl, HB5.out⟩
      · have hkn : ((k1 : Int) != 0) = true := by rcases hk1 with rfl | rfl <;> rfl
        have CAW2 := Lib.hid (CAW.out w2 HZ2.out)
        clear hb2 ht1 hk1 hn1
        go_wp2_with fail
        refine CAW2.out.mono ?_
        rintro e w5 ⟨rfl, hb5⟩
        have HB5 := Lib.hid (HB2.out.trans (hb5.mono HB2.out.size))
        clear hb5
        go_wp2_with fail
        go_ret
        exact ⟨rfl, HB5.out⟩
end Go.Proofs.YtjjejcgpeefclaaDoor
