/-
  THE WALKS of scribelaw05.NumBack, NumWhole and NumBlanks: each returns true, and nothing that was there is written.
-/
import Derived.Test.YtmgnfmngihckmaaDoorProdNW
import Derived.Test.YtmgnfmngihckmaaDoorNumM2
import Derived.Test.YtmgnfmngihckmaaDoorCutA
namespace Go.Proofs.YtmgnfmngihckmaaDoor
open Go.RowKit

theorem text_len (a : Int) (ha : OkN a) : (textL a).length ≤ 40 := by
  unfold OkN at ha
  have hm : a.natAbs % 1000000 < 1000000 := Nat.mod_lt _ (by decide)
  unfold textL fracL
  have h1 := Lib.nDigits_le20 (a.natAbs / 1000000) (by omega)
  have h2 : (Lib.trimRightS (six (a.natAbs % 1000000)) [48]).length ≤ 6 := by
    obtain ⟨z, hz, _⟩ := trimR_split (six (a.natAbs % 1000000)) [48]
    have := congrArg List.length hz
    rw [six_len _ hm, List.length_append] at this; omega
  rw [List.length_append, List.length_append, Lib.decDigits_length]
  split <;> split <;> simp <;> omega
set_option maxHeartbeats 2000000 in
theorem numback_walk (a : Int) (_w0 : (Lit.int .i64 a).wf = true) (w : World) (G : Gl w) :
    Calls Tryd.prog 5 #[.int .i64 a] w fun e w' => e = .returned (.bool true) ∧ Below w.heap.size w w' := by
  have HG := Lib.hid G
  clear G
  have AW := Lib.hid fun W => awake_any W
  by_cases ha : OkN a
  · have fa := Lib.hid fun W => fit_yes a W ha
    obtain ⟨S, hS, hSs⟩ := has_ba (textL a)
    have hlen := text_len a ha
    have c1 : Hid (∀ W, Gl W → Calls Tryd.prog 30 #[.int .i64 a] W fun e w' => e = .returned (.string S) ∧ Below W.heap.size W w') := Lib.hid fun W G => (text_any a W ha G).mono fun e w' ⟨h1, h2⟩ => ⟨by rw [h1]; exact ret_s (ba_of _ _ hS).symm, h2⟩
    have hSb : S.size ≤ 40 := by omega
    have p1 := fun W => prefix_any S W (by omega)
    rw [hS, back1 a ha] at p1
    have hss : ((textL a).length : Int) = (S.size : Int) := by omega
    simp only [hss] at p1
    have C2 := Lib.hid p1
    obtain ⟨T, hT⟩ : ∃ T, (⟨#[32]⟩ : ByteArray) ++ S ++ ⟨#[10]⟩ = T := ⟨_, rfl⟩
    have h32 : (⟨#[32]⟩ : ByteArray).size = 1 := rfl
    have h10 : (⟨#[10]⟩ : ByteArray).size = 1 := rfl
    have hTs : T.size ≤ 42 := by rw [← hT, ByteArray.size_append, ByteArray.size_append]; omega
    have hTl : T.data.toList = 32 :: (textL a ++ [10]) := by
      rw [← hT, ByteArray.data_append, ByteArray.data_append, Array.toList_append, Array.toList_append, hS]; simp
    have p2 := fun W => looks_any T W (by omega)
    rw [hTl, back2 a ha] at p2
    have C3 := Lib.hid p2
    clear p1 p2 hS hTl hlen hss hSs
    go_enter Tryd.func5, Tryd.ntmps5
    go_wp2_with ((with_reducible refine (fa.out _).mono ?_); rintro e w' ⟨rfl, rfl⟩)
    refine (c1.out _ HG.out).mono ?_
    rintro e w1 ⟨rfl, hb1⟩
    have HB1 := Lib.hid hb1
    clear hb1
    go_wp2_with fail
    refine (C2.out _).mono ?_
    rintro e w2 ⟨rfl, hb2⟩
    have HB2 := Lib.hid (HB1.out.trans (hb2.mono HB1.out.size))
    clear hb2 HB1
    go_wp2_with fail
    refine (C3.out _).mono ?_
    rintro e w3 ⟨rfl, hb3⟩
    have HB3 := Lib.hid (HB2.out.trans (hb3.mono HB2.out.size))
    clear hb3 HB2
    go_wp2_with fail
    refine (AW.out _ (HG.out.next HB3.out)).mono ?_
    rintro e w4 ⟨rfl, hb4⟩
    have HB4 := Lib.hid (HB3.out.trans (hb4.mono HB3.out.size))
    clear hb4 HB3
    go_wp2_with fail
    go_ret
    exact ⟨rfl, HB4.out⟩
  · have fa := Lib.hid fun W => fit_no a W ha
    go_enter Tryd.func5, Tryd.ntmps5
    go_wp2_with ((with_reducible refine (fa.out _).mono ?_); rintro e w' ⟨rfl, rfl⟩)
    refine (AW.out _ HG.out).mono ?_
    rintro e w1 ⟨rfl, hb1⟩
    go_wp2_with fail
    go_ret
    exact ⟨rfl, hb1⟩

/-! NumWhole. -/
theorem dot_most : (46 : UInt8) ∈ textL 4611686018427387903 ∧ (46 : UInt8) ∈ textL (-4611686018427387903) := by decide +kernel
theorem whole_cases (n : Int) (c : Int) (hc : clampI (n * 1000000) = c) : (46 ∉ textL c ∧ c.tdiv 1000000 = n) ∨ c = 4611686018427387903 ∨ c = -4611686018427387903 := by
  by_cases h : n * 1000000 = c
  · refine .inl ⟨text_dot c (by omega), ?_⟩
    rw [← h]; exact Int.mul_tdiv_cancel _ (by decide)
  · right; unfold clampI at hc; omega
set_option maxHeartbeats 4000000 in
theorem numwhole_walk (n : Int) (w0 : (Lit.int .i64 n).wf = true) (w : World) (G : Gl w) :
    Calls Tryd.prog 10 #[.int .i64 n] w fun e w' => e = .returned (.bool true) ∧ Below w.heap.size w w' := by
  have HG := Lib.hid G
  clear G
  have AW := Lib.hid fun W => awake_any W
  have hn : -9223372036854775808 ≤ n ∧ n ≤ 9223372036854775807 := by
    have h := w0
    simp [Lit.wf] at h
    have e : IntKind.i64.min = -9223372036854775808 := by decide
    rw [e] at h
    exact h
  have c1 := fun W => int_any n W hn
  obtain ⟨c, hc⟩ : ∃ c, clampI (n * 1000000) = c := ⟨_, rfl⟩
  have hok : OkN c := by rw [← hc]; exact clamp_ok _
  rw [hc] at c1
  obtain ⟨S, hS, hSs⟩ := has_ba (textL c)
  have hlen := text_len c hok
  have c2 : Hid (∀ W, Gl W → Calls Tryd.prog 30 #[.int .i64 c] W fun e w' => e = .returned (.string S) ∧ Below W.heap.size W w') := Lib.hid fun W G => (text_any c W hok G).mono fun e w' ⟨h1, h2⟩ => ⟨by rw [h1]; exact ret_s (ba_of _ _ hS).symm, h2⟩
  have hSb : S.size ≤ 40 := by omega
  have hwc := whole_cases n c hc
  have HC1 := Lib.hid c1
  have c3 := Lib.hid fun W => whole_any c W hok
  have hat : Hid (∀ j (hj : j < S.size), S[j] = 46 → c = 4611686018427387903 ∨ c = -4611686018427387903) := Lib.hid fun j hj he => by
    rcases hwc with h | h
    · exact absurd (by rw [← hS]; exact List.mem_of_getElem? (by rw [at_list S j hj, he])) h.1
    · exact h
  have hno : Hid ((∀ j (hj : j < S.size), S[j] ≠ 46) → c.tdiv 1000000 = n) := Lib.hid fun h => by
    have hnm : ∀ l, S.data.toList = l → (46 : UInt8) ∉ l := fun l e hm => by
      obtain ⟨j, hj, hjc⟩ := List.mem_iff_getElem.1 hm
      have hjs : j < S.size := by rw [← e] at hj; simpa using hj
      have h3 := at_list S j hjs
      rw [e, List.getElem?_eq_getElem hj, hjc] at h3
      exact h j hjs (Option.some.inj h3).symm
    have hnm := hnm _ hS
    rcases hwc with h | rfl | rfl
    · exact h.2
    · exact absurd dot_most.1 hnm
    · exact absurd dot_most.2 hnm
  clear c1 hc hS hwc hlen hSs w0 hn hok
  go_enter Tryd.func10, Tryd.ntmps10
  go_wp2_with fail
  refine (HC1.out _).mono ?_
  rintro e w1 ⟨rfl, hb1⟩
  have HB1 := Lib.hid hb1.below
  clear hb1
  go_wp2_with fail
  refine (c2.out _ (HG.out.next HB1.out)).mono ?_
  rintro e w2 ⟨rfl, hb2⟩
  have HB2 := Lib.hid (HB1.out.trans (hb2.mono HB1.out.size))
  clear hb2 HB1
  go_wp2_with fail
  go_loop [5] (fun i => ∃ k : Nat, k ≤ S.size ∧ i = .int .i64 k ∧ Hid (∀ j (hj : j < S.size), j < k → S[j] ≠ 46)) (fun i => S.size - (intOf i).toNat)
  case atStart => exact ⟨0, Nat.zero_le _, rfl, Lib.hid fun j _ h => absurd h (Nat.not_lt_zero j)⟩
  case round =>
    obtain ⟨k, hk, rfl, hall⟩ := hrel
    by_cases hlt : k < S.size
    · by_cases h46 : (S[k].toNat : Int) = 46
      · have hm := hat.out k hlt (by apply UInt8.toNat_inj.1; show S[k].toNat = 46; omega)
        rcases hm with rfl | rfl
        all_goals
          go_wp2_with fail
          refine (AW.out _ (HG.out.next HB2.out)).mono ?_
          rintro e w3 ⟨rfl, hb3⟩
          have HB3 := Lib.hid (HB2.out.trans (hb3.mono HB2.out.size))
          clear hb3 HB2
          go_wp2_with fail
          go_ret
          exact ⟨rfl, HB3.out⟩
      · have HA : Hid (∀ j (hj : j < S.size), j < k + 1 → S[j] ≠ 46) := Lib.hid fun j hj hjk => by
          rcases Nat.lt_or_ge j k with h | h
          · exact hall.out j hj h
          · obtain rfl : j = k := by omega
            intro h; rw [h] at h46; exact h46 rfl
        clear hall
        go_wp2_with fail
        go_round
        case rel => exact ⟨k + 1, by omega, by go_num, HA⟩
        case measure => simp [intOf]; omega
    · have he : c.tdiv 1000000 = n := hno.out fun j hj => hall.out j hj (by omega)
      have c3' := c3.out
      rw [he] at c3'
      have HC3 := Lib.hid c3'
      clear c3 c3' he
      go_wp2_with fail
      refine (AW.out _ (HG.out.next HB2.out)).mono ?_
      rintro e w3 ⟨rfl, hb3⟩
      have HB3 := Lib.hid (HB2.out.trans (hb3.mono HB2.out.size))
      clear hb3 HB2
      go_wp2_with ((with_reducible refine (HC3.out _).mono ?_); rintro e w' ⟨rfl, rfl⟩)
      refine (HC1.out _).mono ?_
      rintro e w4 ⟨rfl, hb4⟩
      have HB4 := Lib.hid (HB3.out.trans (hb4.below.mono HB3.out.size))
      clear hb4 HB3
      go_wp2_with fail
      go_ret
      exact ⟨rfl, HB4.out⟩

/-! NumBlanks. -/
theorem rep_ba (k : Nat) (B : ByteArray) (h : B.data.toList = List.replicate k 32) : (B ++ ⟨#[32]⟩).data.toList = List.replicate (k + 1) 32 := by
  rw [ByteArray.data_append, Array.toList_append, h, List.replicate_succ']
set_option maxHeartbeats 4000000 in
theorem numblanks_walk (s0 : ByteArray) (n : Int) (w0 : s0.size ≤ maxLen) (_w1 : (Lit.int .i64 n).wf = true) (w : World) (G : Gl w) :
    Calls Tryd.prog 9 #[.string s0, .int .i64 n] w fun e w' => e = .returned (.bool true) ∧ Below w.heap.size w w' := by
  have HG := Lib.hid G
  clear G
  have AW := Lib.hid fun W => awake_any W
  have C0 : Hid (∀ W, Calls Tryd.prog 25 #[.string s0, .int .i64 60] W fun e w' => e = .returned (.string (cutB s0 60)) ∧ W = w') := Lib.hid fun W => cut_any s0 60 W w0 (by omega)
  have hs := cutB_size s0 60
  generalize cutB s0 60 = s at *
  by_cases hlo : n < 0
  · go_enter Tryd.func9, Tryd.ntmps9
    go_wp2_with ((with_reducible refine (C0.out _).mono ?_); rintro e w' ⟨rfl, rfl⟩)
    refine (AW.out _ HG.out).mono ?_
    rintro e w1 ⟨rfl, hb1⟩
    go_wp2_with fail
    go_ret
    exact ⟨rfl, hb1⟩
  by_cases hhi : 20 < n
  · go_enter Tryd.func9, Tryd.ntmps9
    go_wp2_with ((with_reducible refine (C0.out _).mono ?_); rintro e w' ⟨rfl, rfl⟩)
    refine (AW.out _ HG.out).mono ?_
    rintro e w1 ⟨rfl, hb1⟩
    go_wp2_with fail
    go_ret
    exact ⟨rfl, hb1⟩
  obtain ⟨m, rfl⟩ : ∃ m : Nat, n = m := ⟨n.toNat, by omega⟩
  have hm : m ≤ 20 := by omega
  obtain ⟨v, hv⟩ : ∃ v, (prefixL s.data.toList).1 = v := ⟨_, rfl⟩
  obtain ⟨k, hk⟩ : ∃ k, (prefixL s.data.toList).2 = k := ⟨_, rfl⟩
  have hks : k ≤ s.size := by have := prefix_le s.data.toList; rw [hk] at this; simpa using this
  have c1 := fun W => prefix_any s W (by omega)
  rw [hv, hk] at c1
  have C1 := Lib.hid c1
  have hb := blanks_same m s.data.toList
  rw [hv, hk] at hb
  have ht := prefix_twice s.data.toList
  rw [hk, hv] at ht
  obtain ⟨L, hL⟩ : ∃ L, s.extract 0 k = L := ⟨_, rfl⟩
  have hLl : L.data.toList = s.data.toList.take k := by rw [← hL, ext0]
  have hLs : L.size ≤ 60 := by rw [← hL]; simp; omega
  have c3 := fun W => looks_any L W (by omega)
  rw [hLl] at c3
  have HB := Lib.hid hb
  have HT := Lib.hid ht
  have HC3 := Lib.hid c3
  clear c1 hb ht hv hk c3 hLl
  go_enter Tryd.func9, Tryd.ntmps9
  go_wp2_with ((with_reducible refine (C0.out _).mono ?_); rintro e w' ⟨rfl, rfl⟩)
  go_loop [5, 6] (fun b i => ∃ (j : Nat) (B : ByteArray), j ≤ m ∧ i = .int .i64 j ∧ b = .string B ∧ Hid (B.data.toList = List.replicate j 32)) (fun _ i => m - (intOf i).toNat)
  case atStart => exact ⟨0, _, Nat.zero_le _, rfl, rfl, Lib.hid rfl⟩
  case round =>
    obtain ⟨j, B, hj, rfl, rfl, hB⟩ := hrel
    have hBs : B.size = j := by
      have h := congrArg List.length hB.out
      rw [List.length_replicate] at h
      rw [← h]; simp
    have hBi : (B.size : Int) ≤ 20 := by omega
    have h32 : (⟨#[32]⟩ : ByteArray).size = 1 := rfl
    by_cases hlt : j < m
    · have HN := Lib.hid (rep_ba j B hB.out)
      clear hBs
      go_wp2
      go_round
      case rel => exact ⟨j + 1, _, by omega, by go_num, rfl, HN⟩
      case measure => simp [intOf]; omega
    · obtain rfl : j = m := by omega
      obtain ⟨T, hT⟩ : ∃ T, B ++ s = T := ⟨_, rfl⟩
      have hTl : T.data.toList = List.replicate j 32 ++ s.data.toList := by rw [← hT, ByteArray.data_append, Array.toList_append, hB.out]
      have hTs : T.size ≤ 80 := by rw [← hT, ByteArray.size_append]; omega
      have c2 := fun W => prefix_any T W (by omega)
      rw [hTl, HB.out] at c2
      clear hBs hTl hlt hj
      by_cases h0 : k = 0
      · subst h0
        simp only [if_pos] at c2
        have C2 := Lib.hid c2
        clear c2
        obtain ⟨v2, hv2⟩ : ∃ v2, (looksL (s.data.toList.take 0)).1 = v2 := ⟨_, rfl⟩
        obtain ⟨o2, ho2⟩ : ∃ v2, (looksL (s.data.toList.take 0)).2 = v2 := ⟨_, rfl⟩
        have c3 := HC3.out
        rw [hv2, ho2] at c3
        have C3 := Lib.hid c3
        clear c3 HC3 hv2 ho2
        obtain rfl : L = ByteArray.empty := by rw [← hL]; simp
        clear hL
        go_wp2_with fail
        refine (C1.out _).mono ?_
        rintro e w1 ⟨rfl, hb1⟩
        have HB1 := Lib.hid hb1
        clear hb1
        go_wp2_with fail
        refine (C2.out _).mono ?_
        rintro e w2 ⟨rfl, hb2⟩
        have HB2 := Lib.hid (HB1.out.trans (hb2.mono HB1.out.size))
        clear hb2 HB1
        go_wp2_with fail
        refine (C3.out _).mono ?_
        rintro e w3 ⟨rfl, hb3⟩
        have HB3 := Lib.hid (HB2.out.trans (hb3.mono HB2.out.size))
        clear hb3 HB2
        go_wp2_with fail
        refine (AW.out _ (HG.out.next HB3.out)).mono ?_
        rintro e w4 ⟨rfl, hb4⟩
        have HB4 := Lib.hid (HB3.out.trans (hb4.mono HB3.out.size))
        clear hb4 HB3
        go_wp2_with fail
        go_ret
        exact ⟨rfl, HB4.out⟩
      · simp only [if_neg h0] at c2
        have C2 := Lib.hid c2
        clear c2
        have c3 := HC3.out
        rw [HT.out h0] at c3
        have C3 := Lib.hid c3
        clear c3 HC3
        have hk0 : (0 : Int) < (k : Int) := by omega
        go_wp2_with fail
        refine (C1.out _).mono ?_
        rintro e w1 ⟨rfl, hb1⟩
        have HB1 := Lib.hid hb1
        clear hb1
        go_wp2_with fail
        refine (C2.out _).mono ?_
        rintro e w2 ⟨rfl, hb2⟩
        have HB2 := Lib.hid (HB1.out.trans (hb2.mono HB1.out.size))
        clear hb2 HB1
        go_wp2_with fail
        refine (C3.out _).mono ?_
        rintro e w3 ⟨rfl, hb3⟩
        have HB3 := Lib.hid (HB2.out.trans (hb3.mono HB2.out.size))
        clear hb3 HB2
        go_wp2_with fail
        refine (AW.out _ (HG.out.next HB3.out)).mono ?_
        rintro e w4 ⟨rfl, hb4⟩
        have HB4 := Lib.hid (HB3.out.trans (hb4.mono HB3.out.size))
        clear hb4 HB3
        go_wp2_with fail
        go_ret
        exact ⟨rfl, HB4.out⟩
end Go.Proofs.YtmgnfmngihckmaaDoor
