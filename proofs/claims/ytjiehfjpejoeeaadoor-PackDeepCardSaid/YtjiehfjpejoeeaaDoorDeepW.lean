/-
  PLAIN MATHEMATICS on lists in one another, and THE WALK of the law PackDeep: whatever the number, it returns true and writes to nothing that was there, where the library's table of powers of ten is as its text lays it.
-/
import Derived.Test.YtjiehfjpejoeeaaDoorSkip
namespace Go.Proofs.YtjiehfjpejoeeaaDoor
open Go.RowKit

/-- n lists in one another. -/
def deepL (n : Nat) : List UInt8 := List.replicate n 40 ++ List.replicate n 41
theorem deep_at {s : ByteArray} {n i : Nat} (hs : s.data.toList = deepL n) (hi : i < s.size) : s[i].toNat = if i < n then 40 else 41 := by
  have hl : i < s.data.toList.length := by simpa using hi
  have e : s[i] = s.data.toList[i] := rfl
  rw [e]
  simp only [hs, deepL]
  rw [List.getElem_append]
  by_cases h : i < n
  · rw [dif_pos (by simpa using h), if_pos h, List.getElem_replicate]; rfl
  · rw [dif_neg (by simpa using h), if_neg h, List.getElem_replicate]; rfl
theorem deep_size {s : ByteArray} {n : Nat} (hs : s.data.toList = deepL n) : s.size = 2 * n := by
  have := congrArg List.length hs
  simp [deepL] at this
  omega
theorem deep_stB {s : ByteArray} {n i c : Nat} (hs : s.data.toList = deepL n) (hi : i < 2 * n) : stB s i c = ((if i < n then 40 else 41) == c) := by
  have hz := deep_size hs
  unfold stB
  rw [dif_pos (by omega), deep_at hs (by omega)]
theorem deep_105 {s : ByteArray} {n i : Nat} (hs : s.data.toList = deepL n) (hi : i < 2 * n) : ¬ stB s i 105 = true := by
  rw [deep_stB hs hi]; split <;> simp
theorem deep_40 {s : ByteArray} {n i : Nat} (hs : s.data.toList = deepL n) (hi : i < n) : stB s i 40 = true := by
  rw [deep_stB hs (by omega), if_pos hi]; rfl
theorem deep_41 {s : ByteArray} {n i : Nat} (hs : s.data.toList = deepL n) (hi : n ≤ i) (h2 : i < 2 * n) : stB s i 41 = true := by
  rw [deep_stB hs h2, if_neg (by omega)]; rfl
theorem deep_not41 {s : ByteArray} {n i : Nat} (hs : s.data.toList = deepL n) (hi : i < n) : stB s i 41 = false := by
  rw [deep_stB hs (by omega), if_pos hi]; rfl
theorem deep_open {s : ByteArray} {n i : Nat} (hs : s.data.toList = deepL n) (hi : i < n) (h60 : i ≠ 60) : (opA s i i 0, opJ s i i 0, opE s i i 0) = (i + 1, i + 1, 0) := by
  have e : opK i 0 = 0 := by unfold opK; rw [if_neg (by omega), if_neg h60]
  have e1 : opE s i i 0 = 0 := by unfold opE signE; rw [e, if_neg (by omega), if_pos (deep_40 hs hi)]
  have e2 : opA s i i 0 = i + 1 := by unfold opA signA; rw [e, if_neg (by omega), if_pos (deep_40 hs hi)]
  have e3 : opJ s i i 0 = i + 1 := by unfold opJ; rw [e1, if_neg (by omega)]
  rw [e1, e2, e3]
theorem deep_close {s : ByteArray} {n i j : Nat} (hs : s.data.toList = deepL n) (hi : n ≤ i) (h2 : i < 2 * n) (hj : j ≠ 0) : (clA s i j 0, clJ s i j 0, clE s i j 0) = (i + 1, j - 1, 0) := by
  have e : clK j 0 = 0 := by unfold clK; rw [if_neg (by omega), if_neg hj]
  have e1 : clE s i j 0 = 0 := by unfold clE signE; rw [e, if_neg (by omega), if_pos (deep_41 hs hi h2)]
  have e2 : clA s i j 0 = i + 1 := by unfold clA signA; rw [e, if_neg (by omega), if_pos (deep_41 hs hi h2)]
  have e3 : clJ s i j 0 = j - 1 := by unfold clJ; rw [e1, if_neg (by omega)]
  rw [e1, e2, e3]
theorem stuck_close (s : ByteArray) (f i j : Nat) : skP s (f + 1) true (i, j, 14) = (i, j, 14) := by
  have e : clK j 14 = 14 := by unfold clK; rw [if_pos (by omega)]
  have e1 : clE s i j 14 = 14 := by unfold clE; rw [e, sign_sticky s i 14 41 (by omega)]
  have e2 : clA s i j 14 = i := by unfold clA signA; rw [e, if_pos (by omega)]
  have e3 : clJ s i j 14 = j := by unfold clJ; rw [e1, if_pos (by omega)]
  rw [skP]
  simp only
  rw [if_neg (by rw [more_false (by omega)]; simp), e1, e2, e3]

/-- Up to 60 deep: Skip takes all. -/
theorem deep_all {s : ByteArray} {n : Nat} (hs : s.data.toList = deepL n) (hn : n ≤ 60) : ∀ m i f, i + m + 1 = n → 2 * (m + 1) ≤ f → skP s f false (i, i, 0) = (2 * n - i, i, 0) := by
  have hz := deep_size hs
  intro m
  induction m with
  | zero =>
    intro i f hi hf
    obtain ⟨g, rfl⟩ : ∃ g, f = g + 1 + 1 := ⟨f - 2, by omega⟩
    rw [skP]
    simp only
    rw [if_neg (deep_105 hs (by omega)), if_pos (deep_40 hs (by omega)), deep_open hs (by omega) (by omega), skP]
    simp only
    rw [if_neg (by unfold moreB; rw [deep_41 hs (by omega) (by omega)]; simp), deep_close hs (by omega) (by omega) (by omega)]
    rw [show i + 1 + 1 = 2 * n - i from by omega, show i + 1 - 1 = i from by omega]
  | succ m ih =>
    intro i f hi hf
    obtain ⟨g, rfl⟩ : ∃ g, f = g + 1 + 1 + 1 := ⟨f - 3, by omega⟩
    rw [skP]
    simp only
    rw [if_neg (deep_105 hs (by omega)), if_pos (deep_40 hs (by omega)), deep_open hs (by omega) (by omega), skP]
    simp only
    rw [if_pos (by unfold moreB; rw [deep_not41 hs (by omega)]; simp; omega), ih (i + 1) (g + 1) (by omega) (by omega), skP]
    simp only
    rw [if_neg (by unfold moreB; rw [deep_41 hs (by omega) (by omega)]; simp), deep_close hs (by omega) (by omega) (by omega)]
    rw [show 2 * n - (i + 1) + 1 = 2 * n - i from by omega, show i + 1 - 1 = i from by omega]
/-- Deeper: the 61st list errs. -/
theorem deep_too {s : ByteArray} {n : Nat} (hs : s.data.toList = deepL n) (hn : 60 < n) : ∀ m i f, i + m = 60 → 2 * m + 2 ≤ f → skP s f false (i, i, 0) = (60, 60, 14) := by
  have hz := deep_size hs
  intro m
  induction m with
  | zero =>
    intro i f hi hf
    obtain rfl : i = 60 := by omega
    obtain ⟨g, rfl⟩ : ∃ g, f = g + 1 + 1 := ⟨f - 2, by omega⟩
    have e : opK 60 0 = 14 := rfl
    have e1 : opE s 60 60 0 = 14 := by unfold opE; rw [e, sign_sticky s 60 14 40 (by omega)]
    have e2 : opA s 60 60 0 = 60 := by unfold opA signA; rw [e, if_pos (by omega)]
    have e3 : opJ s 60 60 0 = 60 := by unfold opJ; rw [e1, if_pos (by omega)]
    rw [skP]
    simp only
    rw [if_neg (deep_105 hs (by omega)), if_pos (deep_40 hs (by omega)), e1, e2, e3, stuck_close]
  | succ m ih =>
    intro i f hi hf
    obtain ⟨g, rfl⟩ : ∃ g, f = g + 1 + 1 + 1 := ⟨f - 3, by omega⟩
    rw [skP]
    simp only
    rw [if_neg (deep_105 hs (by omega)), if_pos (deep_40 hs (by omega)), deep_open hs (by omega) (by omega), skP]
    simp only
    rw [if_pos (by unfold moreB; rw [deep_not41 hs (by omega)]; simp; omega), ih (i + 1) (g + 1) (by omega) (by omega), stuck_close]

set_option maxHeartbeats 2000000 in
theorem deep_walk (a0 : Int) (w0 : (Lit.int .i64 a0).wf = true) (w : World) (htab : Lib.TabBelow Tryd.prog w.heap.size w "internal/strconv.uint64pow10" .u64 Lib.pow10Tab) :
    Calls Tryd.prog 9 #[.int .i64 a0] w fun e w' => e = .returned (.bool true) ∧ Below w.heap.size w w' := by
  have HTAB := Lib.hid htab
  clear htab
  by_cases hr : a0 < 0 ∨ 100 < a0
  · go_enter Tryd.func9, Tryd.ntmps9
    go_wp2_with fail
    all_goals
      refine (awake_any _ HTAB.out).mono ?_
      rintro e w' ⟨rfl, hb⟩
      go_wp2_with fail
      go_ret
      exact ⟨rfl, hb⟩
  · obtain ⟨n, rfl⟩ : ∃ n : Nat, a0 = n := ⟨a0.toNat, by omega⟩
    have hn : n ≤ 100 := by omega
    clear hr w0
    go_enter Tryd.func9, Tryd.ntmps9
    go_wp2_with fail
    go_loop [3, 4] (fun sv iv => ∃ (k : Nat) (s : ByteArray), k ≤ n ∧ iv = .int .i64 k ∧ sv = .string s ∧ Hid (s.data.toList = List.replicate k 40) ∧ s.size ≤ 100) (fun _ iv => n - (intOf iv).toNat)
    case atStart => exact ⟨0, ⟨#[]⟩, by omega, rfl, rfl, Lib.hid rfl, Nat.zero_le _⟩
    case round =>
      obtain ⟨k, s, hk, rfl, rfl, HS, hsz⟩ := hrel
      by_cases hlt : k < n
      · go_wp2
        go_round
        case rel => exact ⟨k + 1, _, by omega, by go_num, rfl, Lib.hid (by rw [ByteArray.data_append, Array.toList_append, HS.out, List.replicate_succ']), by rw [ByteArray.size_append]; have := congrArg List.length HS.out; simp at this; show s.size + 1 ≤ 100; omega⟩
        case measure => simp [intOf]; omega
      · obtain rfl : k = n := by omega
        have hss := congrArg List.length HS.out
        have HSS := Lib.hid hss
        clear hss
        go_wp2_with fail
        go_loop [3, 5] (fun sv iv => ∃ (j : Nat) (t : ByteArray), j ≤ k ∧ iv = .int .i64 j ∧ sv = .string t ∧ Hid (t.data.toList = List.replicate k 40 ++ List.replicate j 41) ∧ t.size ≤ 200) (fun _ iv => k - (intOf iv).toNat)
        case atStart => exact ⟨0, s, by omega, rfl, rfl, Lib.hid (by rw [HS.out]; simp), by omega⟩
        case round =>
          obtain ⟨j, t, hj, rfl, rfl, HT, htz⟩ := hrel
          by_cases hlt2 : j < k
          · go_wp2
            go_round
            case rel => exact ⟨j + 1, _, by omega, by go_num, rfl, Lib.hid (by rw [ByteArray.data_append, Array.toList_append, HT.out, List.replicate_succ', List.append_assoc]), by rw [ByteArray.size_append]; have := congrArg List.length HT.out; simp at this; show t.size + 1 ≤ 200; omega⟩
            case measure => simp [intOf]; omega
          · obtain rfl : j = k := by omega
            have HD : Hid (t.data.toList = deepL j) := Lib.hid HT.out
            have hz := deep_size HD.out
            have hsm : t.size ≤ maxLen := by unfold maxLen; omega
            clear HS HSS HT
            by_cases h0 : j = 0
            · subst h0
              go_wp2_with fail
              refine (read_post _ _).mono ?_
              rintro e w1 ⟨rb, rfl, hrb, hr, hb⟩
              have D := Lib.hid (fun w h => done_any rb t 0 0 0 w h (by omega) hsm)
              have e1 : doneE t 0 0 0 = 0 := by unfold doneE; rw [if_neg (by omega), if_neg (by omega)]
              rw [e1] at D
              go_wp2_with fail
              refine (awake_any _ (tab_at HTAB.out hb hb.size)).mono ?_
              rintro e w2 ⟨rfl, hb2⟩
              have hr2 := hr.below hb2 hr.lt
              have hF2 := hb.trans (hb2.mono hb.size)
              clear hr hb hb2
              go_wp2_with fail
              refine (D.out _ hr2).mono ?_
              rintro e w3 ⟨rfl, hr3, o3⟩
              have hF3 := hF2.trans (o3.below hrb hF2.size)
              clear hr2 hF2 o3
              go_wp2_with fail
              refine (at_any _ _ _ _ _ _ hr3).mono ?_
              rintro e w4 ⟨rfl, rfl⟩
              go_wp2_with fail
              go_ret
              exact ⟨rfl, hF3⟩
            · by_cases h60 : j ≤ 60
              · have SK := Lib.hid (fun b w h => skip_all t (by omega) (2 * t.size + 2) (2 * t.size + 2) (Nat.le_refl _) b 0 0 0 w h (Nat.zero_le _) (by omega) (by unfold needS; simp))
                have es : skP t (2 * t.size + 2) false (0, 0, 0) = ((2 * j - 0), 0, 0) := deep_all HD.out h60 (j - 1) 0 _ (by omega) (by omega)
                rw [es] at SK
                simp only at SK
                have D := Lib.hid (fun b w h => done_any b t (2 * j - 0) 0 0 w h (by omega) hsm)
                have e1 : doneE t (2 * j - 0) 0 0 = 0 := by unfold doneE; simp <;> omega
                rw [e1] at D
                clear es e1 HD
                go_wp2_with fail
                refine (read_post _ _).mono ?_
                rintro e w1 ⟨rb, rfl, hrb, hr, hb⟩
                go_wp2_with fail
                refine (SK.out _ _ hr).mono ?_
                rintro e w5 ⟨rfl, hr5, o5⟩
                have hb5 := hb.trans (o5.below hrb hb.size)
                clear hr hb o5
                go_wp2_with fail
                refine (awake_any _ (tab_at HTAB.out hb5 hb5.size)).mono ?_
                rintro e w2 ⟨rfl, hb2⟩
                have hr2 := hr5.below hb2 hr5.lt
                have hF2 := hb5.trans (hb2.mono hb5.size)
                clear hr5 hb5 hb2
                go_wp2_with fail
                refine (D.out _ _ hr2).mono ?_
                rintro e w3 ⟨rfl, hr3, o3⟩
                have hF3 := hF2.trans (o3.below hrb hF2.size)
                clear hr2 hF2 o3
                go_wp2_with fail
                refine (at_any _ _ _ _ _ _ hr3).mono ?_
                rintro e w4 ⟨rfl, rfl⟩
                go_wp2_with fail
                go_ret
                exact ⟨rfl, hF3⟩
              · have SK := Lib.hid (fun b w h => skip_all t (by omega) (2 * t.size + 2) (2 * t.size + 2) (Nat.le_refl _) b 0 0 0 w h (Nat.zero_le _) (by omega) (by unfold needS; simp))
                have es : skP t (2 * t.size + 2) false (0, 0, 0) = (60, 60, 14) := deep_too HD.out (by omega) 60 0 _ (by omega) (by omega)
                rw [es] at SK
                simp only at SK
                have D := Lib.hid (fun b w h => done_any b t 60 60 14 w h (by omega) hsm)
                have e1 : doneE t 60 60 14 = 14 := by unfold doneE; simp <;> omega
                rw [e1] at D
                clear es e1 HD
                go_wp2_with fail
                refine (read_post _ _).mono ?_
                rintro e w1 ⟨rb, rfl, hrb, hr, hb⟩
                go_wp2_with fail
                refine (SK.out _ _ hr).mono ?_
                rintro e w5 ⟨rfl, hr5, o5⟩
                have hb5 := hb.trans (o5.below hrb hb.size)
                clear hr hb o5
                go_wp2_with fail
                refine (awake_any _ (tab_at HTAB.out hb5 hb5.size)).mono ?_
                rintro e w2 ⟨rfl, hb2⟩
                have hr2 := hr5.below hb2 hr5.lt
                have hF2 := hb5.trans (hb2.mono hb5.size)
                clear hr5 hb5 hb2
                go_wp2_with fail
                refine (D.out _ _ hr2).mono ?_
                rintro e w3 ⟨rfl, hr3, o3⟩
                have hF3 := hF2.trans (o3.below hrb hF2.size)
                clear hr2 hF2 o3
                go_wp2_with fail
                refine (at_any _ _ _ _ _ _ hr3).mono ?_
                rintro e w4 ⟨rfl, rfl⟩
                go_wp2_with fail
                go_ret
                exact ⟨rfl, hF3⟩
end Go.Proofs.YtjiehfjpejoeeaaDoor
