/-
  THE WALK of MatchEither: a text has one of two patterns just if it has that of both.
-/
import Derived.Test.YtjjejcgpeefclaaDoorMtL1
import Derived.Test.YtjjejcgpeefclaaDoorCutA
import Derived.Lib.AppendStr
namespace Go.Proofs.YtjjejcgpeefclaaDoor
open Go.RowKit

set_option maxHeartbeats 4000000 in
set_option maxRecDepth 100000 in
theorem either_walk (a0 b0 t0 : ByteArray) (ha : a0.size ≤ maxLen) (hb : b0.size ≤ maxLen) (ht : t0.size ≤ maxLen) (w : World) (hdz : Dz w) :
    Calls Tryd.prog 8 #[.string a0, .string b0, .string t0] w fun e w' => e = .returned (.bool true) ∧ Below w.heap.size w w' := by
  have CA := Lib.hid fun Z => cut_any a0 20 Z ha (by omega)
  have CB := Lib.hid fun Z => cut_any b0 20 Z hb (by omega)
  have CT := Lib.hid fun Z => cut_any t0 30 Z ht (by omega)
  have has := cutB_size a0 20
  have hbs := cutB_size b0 20
  have hts := cutB_size t0 30
  generalize cutB a0 20 = a at *
  generalize cutB b0 20 = b at *
  generalize cutB t0 30 = t at *
  have HDZ := Lib.hid hdz
  have hai : (a.size : Int) ≤ 20 := by omega
  have hbi : (b.size : Int) ≤ 20 := by omega
  clear ha hb ht hdz
  go_enter Tryd.func8, Tryd.ntmps8
  go_wp2_with fail
  refine (CA.out _).mono ?_
  rintro e w1 ⟨rfl, rfl⟩
  go_wp2_with fail
  refine (CB.out _).mono ?_
  rintro e w1 ⟨rfl, rfl⟩
  go_wp2_with fail
  refine (CT.out _).mono ?_
  rintro e w1 ⟨rfl, rfl⟩
  have CO1 := Lib.hid (mof_any a (by omega) w HDZ.out)
  clear CA CB CT
  go_wp2_with fail
  refine CO1.out.mono ?_
  rintro e w2 ⟨hb2, h2⟩
  have HB2 := Lib.hid hb2
  have HZ2 := Lib.hid (HDZ.out.next hb2)
  have CO2 := Lib.hid (mof_any b (by omega) w2 HZ2.out)
  have CAW := Lib.hid fun Z (hz : Dz Z) => mawake_any Z hz
  clear CO1
  rcases h2 with ⟨t1, r1, d1, ht1, rfl, hpg1⟩ | ⟨n1, k1, ht1, hk1, hn1, rfl⟩
  · have HPG1 := Lib.hid hpg1
    have HT1 := Lib.hid ht1
    clear hb2 hpg1 ht1
    go_wp2_with fail
    refine CO2.out.mono ?_
    rintro e w3 ⟨hb3, h3⟩
    have HZ3 := Lib.hid (HZ2.out.next hb3)
    have HB3 := Lib.hid (HB2.out.trans (hb3.mono HB2.out.size))
    have HPG13 := Lib.hid (HPG1.out.next hb3)
    clear CO2 HB2 HZ2 HPG1
    rcases h3 with ⟨t2, r2, d2, ht2, rfl, hpg2⟩ | ⟨n2, k2, ht2, hk2, hn2, rfl⟩
    · have HPG2 := Lib.hid hpg2
      obtain ⟨t3, ht3, hlead⟩ := top_bar HT1.out ht2
      have HMB := Lib.hid fun s i j => met_bar (s := s) hlead i j
      clear hb3 hpg2 ht2 hlead
      have hcat : (a ++ (⟨#[124]⟩ : ByteArray) ++ b).data.toList = a.data.toList ++ 124 :: b.data.toList := by simp
      have CO3 := Lib.hid (mof_any (a ++ (⟨#[124]⟩ : ByteArray) ++ b) (by simp [ByteArray.size_append]; have : ByteArray.size ⟨#[124]⟩ = 1 := rfl; omega) w3 HZ3.out)
      have HC := Lib.hid hcat
      clear hcat
      go_wp2_with fail
      refine CO3.out.mono ?_
      rintro e w4 ⟨hb4, h4⟩
      rcases h4 with ⟨t3', r3, d3, ht3', rfl, hpg3⟩ | ⟨n3, k3, ht3', _⟩
      · have he3 : t3' = t3 := by
          rw [HC.out, ht3] at ht3'
          injection ht3' with h
          exact (Prod.mk.inj h).1.symm
        subst he3
        have CAW4 := Lib.hid (CAW.out w4 (HZ3.out.next hb4))
        have HB4 := Lib.hid (HB3.out.trans (hb4.mono HB3.out.size))
        have HPG14 := Lib.hid (HPG13.out.next hb4)
        have HPG24 := Lib.hid (HPG2.out.next hb4)
        have HPG34 := Lib.hid hpg3
        clear hb4 hpg3 ht3' ht3 CO3 HB3 HPG13 HPG2 HZ3 CAW HC
        go_wp2_with fail
        refine CAW4.out.mono ?_
        rintro e w5 ⟨rfl, hb5⟩
        have HB5 := Lib.hid (HB4.out.trans (hb5.mono HB4.out.size))
        have HPG15 := Lib.hid (HPG14.out.next hb5)
        have HPG25 := Lib.hid (HPG24.out.next hb5)
        have CI3 := Lib.hid (mIn_any t (by omega) (HPG34.out.next hb5))
        clear hb5 HB4 HPG14 HPG24 HPG34 CAW4
        go_wp2_with fail
        refine CI3.out.mono ?_
        rintro e w6 ⟨b3, rfl, hb3', hb6⟩
        have HB6 := Lib.hid (HB5.out.trans (hb6.mono HB5.out.size))
        have HPG26 := Lib.hid (HPG25.out.next hb6)
        have CI1 := Lib.hid (mIn_any t (by omega) (HPG15.out.next hb6))
        have HX3 := Lib.hid hb3'
        clear hb6 hb3' HB5 HPG15 HPG25 CI3
        go_wp2_with fail
        refine CI1.out.mono ?_
        rintro e w7 ⟨b1, rfl, hb1', hb7⟩
        have HB7 := Lib.hid (HB6.out.trans (hb7.mono HB6.out.size))
        have CI2 := Lib.hid (mIn_any t (by omega) (HPG26.out.next hb7))
        have HX1 := Lib.hid hb1'
        clear hb7 hb1' HB6 HPG26 CI1
        have hin : InIs t t3' ↔ InIs t t1 ∨ InIs t t2 := by
          unfold InIs
          constructor
          · rintro ⟨i, j, h⟩
            rcases (HMB.out t i j).1 h with h | h
            · exact .inl ⟨i, j, h⟩
            · exact .inr ⟨i, j, h⟩
          · rintro (⟨i, j, h⟩ | ⟨i, j, h⟩)
            · exact ⟨i, j, (HMB.out t i j).2 (.inl h)⟩
            · exact ⟨i, j, (HMB.out t i j).2 (.inr h)⟩
        cases b1 with
        | true =>
          have h3t : b3 = true := HX3.out.2 (hin.2 (.inl (HX1.out.1 (by trivial))))
          subst h3t
          clear hin HX1 HX3 CI2
          go_wp2_with fail
          go_ret
          exact ⟨rfl, HB7.out⟩
        | false =>
          have HIN := Lib.hid hin
          clear hin
          go_wp2_with fail
          refine CI2.out.mono ?_
          rintro e w8 ⟨b2, rfl, hb2', hb8⟩
          have HB8 := Lib.hid (HB7.out.trans (hb8.mono HB7.out.size))
          have h32 : b3 = b2 := by
            have h1 : ¬ InIs t t1 := fun h => by have := HX1.out.2 h; cases this
            rw [Bool.eq_iff_iff, HX3.out, HIN.out, hb2']
            exact ⟨fun h => h.resolve_left h1, .inr⟩
          subst h32
          clear hb8 hb2' HX1 HX3 HIN CI2
          have hbb : (b3 == b3) = true := by simp
          go_wp2_with fail
          go_ret
          simp
          exact HB8.out
      · rw [HC.out, ht3] at ht3'
        cases ht3'
    · have hkn : ((k2 : Int) != 0) = true := by rcases hk2 with rfl | rfl <;> rfl
      have CAW3 := Lib.hid (CAW.out w3 HZ3.out)
      clear hb3 ht2 hk2 hn2
      go_wp2_with fail
      refine CAW3.out.mono ?_
      rintro e w5 ⟨rfl, hb5⟩
      have HB5 := Lib.hid (HB3.out.trans (hb5.mono HB3.out.size))
      clear hb5
      go_wp2_with fail
      go_ret
      exact ⟨rfl, HB5.out⟩
  · have hkn : ((k1 : Int) != 0) = true := by rcases hk1 with rfl | rfl <;> rfl
    clear hb2 ht1 hk1 hn1
    go_wp2_with fail
    refine CO2.out.mono ?_
    rintro e w3 ⟨hb3, h3⟩
    have CAW3 := Lib.hid (CAW.out w3 (HZ2.out.next hb3))
    have HB3 := Lib.hid (HB2.out.trans (hb3.mono HB2.out.size))
    clear hb3 CO2 HB2 HZ2
    rcases h3 with ⟨t2, r2, d2, ht2, rfl, hpg2⟩ | ⟨n2, k2, ht2, hk2, hn2, rfl⟩
    all_goals
      try clear hpg2
      try clear hk2 hn2
      clear ht2
      go_wp2_with fail
      refine CAW3.out.mono ?_
      rintro e w5 ⟨rfl, hb5⟩
      have HB5 := Lib.hid (HB3.out.trans (hb5.mono HB3.out.size))
      clear hb5
      go_wp2_with fail
      go_ret
      exact ⟨rfl, HB5.out⟩
end Go.Proofs.YtjjejcgpeefclaaDoor
