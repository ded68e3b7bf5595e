/-
  THE WALK of MatchLongest: what is found is as long as may be, and nothing begins ahead of it.
-/
import Derived.Test.YtjjejcgpeefclaaDoorMtWhole
import Derived.Deep.LoopGhost
namespace Go.Proofs.YtjjejcgpeefclaaDoor
open Go.RowKit

set_option maxHeartbeats 4000000 in
set_option maxRecDepth 100000 in
theorem longest_walk (s0 t0 : ByteArray) (hs : s0.size ≤ maxLen) (ht : t0.size ≤ maxLen) (w : World) (hdz : Dz w) :
    Calls Tryd.prog 9 #[.string s0, .string t0] w fun e w' => e = .returned (.bool true) ∧ Below w.heap.size w w' := by
  have CS := Lib.hid fun Z => cut_any s0 30 Z hs (by omega)
  have CT := Lib.hid fun Z => cut_any t0 20 Z ht (by omega)
  have hss := cutB_size s0 30
  have hts := cutB_size t0 20
  generalize cutB s0 30 = s at *
  generalize cutB t0 20 = t at *
  have HDZ := Lib.hid hdz
  have CAW := Lib.hid fun Z (hz : Dz Z) => mawake_any Z hz
  clear hs ht hdz
  go_enter Tryd.func9, Tryd.ntmps9
  go_wp2_with fail
  refine (CS.out _).mono ?_
  rintro e w1 ⟨rfl, rfl⟩
  go_wp2_with fail
  refine (CT.out _).mono ?_
  rintro e w1 ⟨rfl, rfl⟩
  clear CS CT
  go_wp2_with fail
  go_loopw [5] (fun iv wr => ∃ k : Nat, k ≤ s.size ∧ iv = .int .i64 (k : Int) ∧ Hid (NoU s k) ∧ w = wr) (fun iv _ => s.size - (intOf iv).toNat)
  case atStart => exact ⟨0, Nat.zero_le _, rfl, Lib.hid (NoU.zero s), rfl⟩
  case round =>
    obtain ⟨k, hk, rfl, HN, rfl⟩ := hrel
    by_cases hlt : k < s.size
    · obtain ⟨c, hc⟩ : ∃ c, s[k] = c := ⟨_, rfl⟩
      have hcb := c.toNat_lt
      have CAW3 := Lib.hid (CAW.out w HDZ.out)
      by_cases h94 : c = 94
      · have e94 : ((c.toNat : Int) == 94) = true := by subst h94; rfl
        go_wp2_with fail
        refine CAW3.out.mono ?_
        rintro e w5 ⟨rfl, hb5⟩
        have HB5 := Lib.hid hb5
        clear hb5
        go_wp2_with fail
        go_ret
        exact ⟨rfl, HB5.out⟩
      · have e94 : ((c.toNat : Int) == 94) = false := by
          rw [Bool.eq_false_iff]; intro h
          have := eq_of_beq h
          exact h94 (UInt8.toNat_inj.1 (by show c.toNat = 94; omega))
        by_cases h36 : c = 36
        · have e36 : ((c.toNat : Int) == 36) = true := by subst h36; rfl
          go_wp2_with fail
          refine CAW3.out.mono ?_
          rintro e w5 ⟨rfl, hb5⟩
          have HB5 := Lib.hid hb5
          clear hb5
          go_wp2_with fail
          go_ret
          exact ⟨rfl, HB5.out⟩
        · have e36 : ((c.toNat : Int) == 36) = false := by
            rw [Bool.eq_false_iff]; intro h
            have := eq_of_beq h
            exact h36 (UInt8.toNat_inj.1 (by show c.toNat = 36; omega))
          have HN2 := Lib.hid (HN.out.next hlt (by rw [hc]; exact h94) (by rw [hc]; exact h36))
          clear CAW3 HN
          go_wp2_with fail
          go_roundw
          case rel => exact ⟨k + 1, by omega, by go_num, HN2, trivial⟩
          case measure => simp [intOf]; omega
    · have hki : ¬ (k : Int) < (s.size : Int) := by omega
      obtain rfl : k = s.size := by omega
      have HNB := Lib.hid HN.out.all
      have CO1 := Lib.hid (mof_any s (by omega) w HDZ.out)
      have hcat : ((⟨#[94, 40]⟩ : ByteArray) ++ s ++ (⟨#[41, 36]⟩ : ByteArray)).data.toList = 94 :: 40 :: (s.data.toList ++ [41, 36]) := by simp
      have hsz : ((⟨#[94, 40]⟩ : ByteArray) ++ s ++ (⟨#[41, 36]⟩ : ByteArray)).size ≤ 300 := by
        have e1 : ByteArray.size ⟨#[94, 40]⟩ = 2 := rfl
        have e2 : ByteArray.size ⟨#[41, 36]⟩ = 2 := rfl
        rw [ByteArray.size_append, ByteArray.size_append]; omega
      have CO2F := Lib.hid fun Z (hz : Dz Z) => mof_any _ hsz Z hz
      have HC := Lib.hid hcat
      clear HN hk hlt hcat hsz
      go_wp2_with fail
      refine CO1.out.mono ?_
      rintro e w2 ⟨hb2, h2⟩
      have HB2 := Lib.hid hb2
      have HZ2 := Lib.hid (HDZ.out.next hb2)
      have CO2 := Lib.hid (CO2F.out w2 HZ2.out)
      clear CO1 CO2F
      rcases h2 with ⟨t1, r1, d1, ht1, rfl, hpg1⟩ | ⟨n1, k1, ht1, hk1, hn1, rfl⟩
      · have HPG1 := Lib.hid hpg1
        have HNE := Lib.hid (top_no HNB.out ht1)
        have HTW := Lib.hid (top_whole ht1)
        clear hb2 hpg1 ht1
        go_wp2_with fail
        refine CO2.out.mono ?_
        rintro e w3 ⟨hb3, h3⟩
        have HB3 := Lib.hid (HB2.out.trans (hb3.mono HB2.out.size))
        have HZ3 := Lib.hid (HZ2.out.next hb3)
        have HPG13 := Lib.hid (HPG1.out.next hb3)
        clear CO2 HB2 HZ2 HPG1
        rcases h3 with ⟨t2, r2, d2, ht2, rfl, hpg2⟩ | ⟨n2, k2, ht2, hk2, hn2, rfl⟩
        · have he2 : t2 = wholeT t1 := by
            rw [HC.out] at ht2
            rcases HTW.out with h | ⟨p, h⟩
            · rw [h] at ht2; injection ht2 with h; exact (Prod.mk.inj h).1.symm
            · rw [h] at ht2; cases ht2
          subst he2
          have HPG2 := Lib.hid hpg2
          have CF := Lib.hid (mFind_any t (by omega) 0 (by omega) HPG13.out)
          clear hb3 hpg2 ht2 HC HTW HPG13
          go_wp2_with fail
          refine CF.out.mono ?_
          rintro e w4 ⟨r, rfl, hr, hb4⟩
          have HB4 := Lib.hid (HB3.out.trans (hb4.mono HB3.out.size))
          have HZ4 := Lib.hid (HZ3.out.next hb4)
          have HPG24 := Lib.hid (HPG2.out.next hb4)
          have HR : Hid (FndIs t t1 0 r) := Lib.hid (by unfold FdIs at hr; rw [if_pos (by omega)] at hr; exact hr)
          have CAW4 := Lib.hid fun Z (hz : Below w4.heap.size w4 Z) => CAW.out Z (HZ4.out.next hz)
          have CIN := Lib.hid fun (a b : Nat) (hab : a ≤ b) (hb : b ≤ t.size) Z (hz : Below w4.heap.size w4 Z) => mIn_any (t.extract a b) (by simp; omega) (HPG24.out.next hz)
          have HIS : Hid (∀ a b : Nat, a ≤ b → b ≤ t.size → (InIs (t.extract a b) (wholeT t1) ↔ Met t t1 a b)) := Lib.hid fun a b hab hb => met_whole.trans (met_part HNE.out hab hb (by simp [List.drop_take]))
          clear hb4 hr CF HB3 HZ3 HPG2 HPG24 CAW HZ4 HNE HNB
          cases r with
          | none =>
            simp only [fndV]
            go_wp2_with fail
            go_loopg [15] (t.size + 1) (fun g iv wr => ∃ k : Nat, k ≤ t.size + 1 ∧ g = t.size + 1 - k ∧ iv = .int .i64 (k : Int) ∧ Hid (Below w4.heap.size w4 wr))
            case atStart => exact ⟨0, Nat.zero_le _, by omega, rfl, Lib.hid (Below.refl _ _)⟩
            case round =>
              obtain ⟨k, hk, hg, rfl, HB⟩ := hrel
              by_cases hlt : k ≤ t.size
              · have hki : (k : Int) ≤ (t.size : Int) := by omega
                go_wp2_with fail
                go_loopg [16] (t.size + 1 - k) (fun g iv wr => ∃ m : Nat, k ≤ m ∧ m ≤ t.size + 1 ∧ g = t.size + 1 - m ∧ iv = .int .i64 (m : Int) ∧ Hid (Below w4.heap.size w4 wr))
                case atStart => exact ⟨k, Nat.le_refl _, by omega, rfl, rfl, HB⟩
                case round =>
                  clear HB
                  obtain ⟨m, hkm, hm, hg2, rfl, HB⟩ := hrel
                  by_cases hlm : m ≤ t.size
                  · have hmi : (m : Int) ≤ (t.size : Int) := by omega
                    have hkmi : (k : Int) ≤ (m : Int) := by omega
                    have CI := Lib.hid (CIN.out k m hkm hlm _ HB.out)
                    go_wp2_with fail
                    refine CI.out.mono ?_
                    rintro e w6 ⟨b, rfl, hb, hb6⟩
                    have HB6 := Lib.hid (HB.out.trans (hb6.mono HB.out.size))
                    obtain rfl : b = false := by
                      cases b with
                      | false => rfl
                      | true => exact (HR.out k (Nat.zero_le _) m ((HIS.out k m hkm hlm).1 (hb.1 rfl))).elim
                    clear hb hb6 CI HB
                    go_wp2_with fail
                    go_roundg (t.size + 1 - (m + 1))
                    case measure => omega
                    case rel => exact ⟨m + 1, by omega, by omega, rfl, by go_num, HB6⟩
                  · have hmi : ¬ (m : Int) ≤ (t.size : Int) := by omega
                    go_wp2_with fail
                    go_roundg (t.size + 1 - (k + 1))
                    case measure => omega
                    case rel => exact ⟨k + 1, by omega, rfl, by go_num, HB⟩
              · have hki : ¬ (k : Int) ≤ (t.size : Int) := by omega
                have CAW5 := Lib.hid (CAW4.out _ HB.out)
                go_wp2_with fail
                refine CAW5.out.mono ?_
                rintro e w7 ⟨rfl, hb7⟩
                have HB7 := Lib.hid (HB4.out.trans ((HB.out.trans (hb7.mono HB.out.size)).mono HB4.out.size))
                clear hb7
                go_wp2_with fail
                go_ret
                exact ⟨rfl, HB7.out⟩
          | some q =>
            obtain ⟨i, j⟩ := q
            obtain ⟨_, hm0, hm1, hm2⟩ := HR.out
            have hij := hm0.le
            have hjt := hm0.1
            have HM1 := Lib.hid hm1
            have HM2 := Lib.hid hm2
            clear hm0 hm1 hm2 HR
            simp only [fndV]
            go_wp2_with fail
            go_loopg [15] (t.size + 1) (fun g iv wr => ∃ k : Nat, k ≤ t.size + 1 ∧ g = t.size + 1 - k ∧ iv = .int .i64 (k : Int) ∧ Hid (Below w4.heap.size w4 wr))
            case atStart => exact ⟨0, Nat.zero_le _, by omega, rfl, Lib.hid (Below.refl _ _)⟩
            case round =>
              obtain ⟨k, hk, hg, rfl, HB⟩ := hrel
              by_cases hlt : k ≤ t.size
              · have hki : (k : Int) ≤ (t.size : Int) := by omega
                go_wp2_with fail
                go_loopg [16] (t.size + 1 - k) (fun g iv wr => ∃ m : Nat, k ≤ m ∧ m ≤ t.size + 1 ∧ g = t.size + 1 - m ∧ iv = .int .i64 (m : Int) ∧ Hid (Below w4.heap.size w4 wr))
                case atStart => exact ⟨k, Nat.le_refl _, by omega, rfl, rfl, HB⟩
                case round =>
                  clear HB
                  obtain ⟨m, hkm, hm, hg2, rfl, HB⟩ := hrel
                  by_cases hlm : m ≤ t.size
                  · have hmi : (m : Int) ≤ (t.size : Int) := by omega
                    have hkmi : (k : Int) ≤ (m : Int) := by omega
                    have CI := Lib.hid (CIN.out k m hkm hlm _ HB.out)
                    go_wp2_with fail
                    refine CI.out.mono ?_
                    rintro e w6 ⟨b, rfl, hb, hb6⟩
                    have HB6 := Lib.hid (HB.out.trans (hb6.mono HB.out.size))
                    have HX := Lib.hid hb
                    clear hb hb6 CI HB
                    cases b with
                    | false =>
                      clear HX
                      go_wp2_with fail
                      go_roundg (t.size + 1 - (m + 1))
                      case measure => omega
                      case rel => exact ⟨m + 1, by omega, by omega, rfl, by go_num, HB6⟩
                    | true =>
                      have hmet := (HIS.out k m hkm hlm).1 (HX.out.1 rfl)
                      have hki2 : i ≤ k := Nat.le_of_not_lt fun h => HM2.out k (Nat.zero_le _) h m hmet
                      have n1 : ¬ (k : Int) < (i : Int) := by omega
                      by_cases hke : k = i
                      · subst hke
                        have := HM1.out m hmet
                        have n2 : ¬ (j : Int) < (m : Int) := by omega
                        clear hmet HX
                        go_wp2_with fail
                        go_roundg (t.size + 1 - (m + 1))
                        case measure => omega
                        case rel => exact ⟨m + 1, by omega, by omega, rfl, by go_num, HB6⟩
                      · have n3 : ((k : Int) == (i : Int)) = false := by
                          rw [Bool.eq_false_iff]; intro h
                          have := eq_of_beq h
                          omega
                        clear hmet HX
                        go_wp2_with fail
                        go_roundg (t.size + 1 - (m + 1))
                        case measure => omega
                        case rel => exact ⟨m + 1, by omega, by omega, rfl, by go_num, HB6⟩
                  · have hmi : ¬ (m : Int) ≤ (t.size : Int) := by omega
                    go_wp2_with fail
                    go_roundg (t.size + 1 - (k + 1))
                    case measure => omega
                    case rel => exact ⟨k + 1, by omega, rfl, by go_num, HB⟩
              · have hki : ¬ (k : Int) ≤ (t.size : Int) := by omega
                have CAW5 := Lib.hid (CAW4.out _ HB.out)
                go_wp2_with fail
                refine CAW5.out.mono ?_
                rintro e w7 ⟨rfl, hb7⟩
                have HB7 := Lib.hid (HB4.out.trans ((HB.out.trans (hb7.mono HB.out.size)).mono HB4.out.size))
                clear hb7
                go_wp2_with fail
                go_ret
                exact ⟨rfl, HB7.out⟩
        · have hkn : ((k2 : Int) != 0) = true := by rcases hk2 with rfl | rfl <;> rfl
          have CAW3 := Lib.hid (CAW.out w3 HZ3.out)
          clear hb3 ht2 hk2 hn2
          go_wp2_with fail
          refine CAW3.out.mono ?_
          rintro e w5 ⟨rfl, hb5⟩
          have HB5 := Lib.hid (HB3.out.trans (hb5.mono HB3.out.size))
          clear hb5
          go_wp2_with fail
          go_ret
          exact ⟨rfl, HB5.out⟩
      · have hkn : ((k1 : Int) != 0) = true := by rcases hk1 with rfl | rfl <;> rfl
        clear hb2 ht1 hk1 hn1
        go_wp2_with fail
        refine CO2.out.mono ?_
        rintro e w3 ⟨hb3, h3⟩
        have CAW3 := Lib.hid (CAW.out w3 (HZ2.out.next hb3))
        have HB3 := Lib.hid (HB2.out.trans (hb3.mono HB2.out.size))
        clear hb3 CO2 HB2 HZ2
        rcases h3 with ⟨t2, r2, d2, ht2, rfl, hpg2⟩ | ⟨n2, k2, ht2, hk2, hn2, rfl⟩
        all_goals
          try clear hpg2
          try clear hk2 hn2
          clear ht2
          go_wp2_with fail
          refine CAW3.out.mono ?_
          rintro e w5 ⟨rfl, hb5⟩
          have HB5 := Lib.hid (HB3.out.trans (hb5.mono HB3.out.size))
          clear hb5
          go_wp2_with fail
          go_ret
          exact ⟨rfl, HB5.out⟩
end Go.Proofs.YtjjejcgpeefclaaDoor
