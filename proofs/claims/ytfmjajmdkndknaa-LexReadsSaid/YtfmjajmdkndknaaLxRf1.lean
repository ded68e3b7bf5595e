/-
  CONTRACTS of the document's own answer for layer 11: digit, letter, run, among, pattern. Each but pattern reads alone.
-/
import Derived.Test.YtfmjajmdkndknaaLxAw
namespace Go.Proofs.Ytfmjajmdkndknaa
open Go.RowKit

theorem rdg_any (c : UInt8) (w : World) : Calls Try.prog 31 #[.int .u8 (c.toNat : Int)] w fun e w' => e = .returned (.bool (isDg c)) ∧ w' = w := by
  unfold isDg
  by_cases h1 : 48 ≤ c.toNat
  · by_cases h2 : c.toNat ≤ 57
    · have e1 : (48 : Int) ≤ (c.toNat : Int) := by omega
      have e2 : (c.toNat : Int) ≤ 57 := by omega
      go_enter Try.func31, Try.ntmps31
      go_wp2
      go_ret
      first | (simp; done) | (simp; omega)
    · have e1 : (48 : Int) ≤ (c.toNat : Int) := by omega
      have e2 : ¬ (c.toNat : Int) ≤ 57 := by omega
      go_enter Try.func31, Try.ntmps31
      go_wp2
      go_ret
      first | (simp; done) | (simp; omega)
  · have e1 : ¬ (48 : Int) ≤ (c.toNat : Int) := by omega
    go_enter Try.func31, Try.ntmps31
    go_wp2
    go_ret
    first | (simp; done) | (simp; omega)
theorem rlt_any (c : UInt8) (w : World) : Calls Try.prog 33 #[.int .u8 (c.toNat : Int)] w fun e w' => e = .returned (.bool (isLt c)) ∧ w' = w := by
  have hw : ∀ x : Bool, isLt c = x → Hid (Calls Try.prog 33 #[.int .u8 (c.toNat : Int)] w fun e w' => e = .returned (.bool x) ∧ w' = w) → Calls Try.prog 33 #[.int .u8 (c.toNat : Int)] w fun e w' => e = .returned (.bool (isLt c)) ∧ w' = w := fun x h k => by rw [h]; exact k.out
  obtain ⟨ci, hci⟩ : ∃ ci : Int, (c.toNat : Int) = ci := ⟨_, rfl⟩
  rcases (show (97 ≤ ci ∧ ci ≤ 122) ∨ (¬ 97 ≤ ci ∧ 65 ≤ ci ∧ ci ≤ 90) ∨ ci = 95 ∨ (¬ 97 ≤ ci ∧ 65 ≤ ci ∧ ¬ ci ≤ 90 ∧ (ci == 95) = false) ∨ (¬ 97 ≤ ci ∧ ¬ 65 ≤ ci ∧ (ci == 95) = false) ∨ (97 ≤ ci ∧ ¬ ci ≤ 122 ∧ 65 ≤ ci ∧ ¬ ci ≤ 90 ∧ (ci == 95) = false) from by simp only [beq_eq_false_iff_ne]; omega) with h | h | h | h | h | h
  · refine hw true (by simp [isLt]; omega) (Lib.hid ?_)
    obtain ⟨h1, h2⟩ := h
    go_enter Try.func33, Try.ntmps33
    go_wp2
    go_ret
    simp
  · refine hw true (by simp [isLt]; omega) (Lib.hid ?_)
    obtain ⟨h1, h2, h3⟩ := h
    go_enter Try.func33, Try.ntmps33
    go_wp2
    go_ret
    simp
  · refine hw true (by simp [isLt]; omega) (Lib.hid ?_)
    subst h
    go_enter Try.func33, Try.ntmps33
    go_wp2
    go_ret
    simp
  · refine hw false (by simp [isLt]; have := h.2.2.2; simp at this; omega) (Lib.hid ?_)
    obtain ⟨h1, h2, h3, h4⟩ := h
    go_enter Try.func33, Try.ntmps33
    go_wp2
    go_ret
    simp
  · refine hw false (by simp [isLt]; have := h.2.2; simp at this; omega) (Lib.hid ?_)
    obtain ⟨h1, h2, h3⟩ := h
    go_enter Try.func33, Try.ntmps33
    go_wp2
    go_ret
    simp
  · refine hw false (by simp [isLt]; omega) (Lib.hid ?_)
    obtain ⟨h1, h2, h3, h4, h5⟩ := h
    go_enter Try.func33, Try.ntmps33
    go_wp2
    go_ret
    simp
set_option maxHeartbeats 1000000 in
theorem run_any (s : ByteArray) (p : Nat) (w : World) (hs : s.size ≤ 100000) (hp : p ≤ s.size) : Calls Try.prog 32 #[.string s, .int .i64 (p : Int)] w fun e w' => e = .returned (.int .i64 (digL (s.data.toList.drop p) : Nat)) ∧ w' = w := by
  have C1 := Lib.hid fun c W => rdg_any c W
  have H0 : Hid (digL (s.data.toList.drop p) = 0 + ((s.data.toList.drop (p + 0)).takeWhile isDg).length) := Lib.hid (by unfold digL; simp)
  generalize hD : digL (s.data.toList.drop p) = D at *
  clear hD
  go_enter Try.func32, Try.ntmps32
  go_wp2
  go_loop [5] (fun i => ∃ k : Nat, p + k ≤ s.size ∧ i = .int .i64 k ∧ Hid (D = k + ((s.data.toList.drop (p + k)).takeWhile isDg).length)) (fun i => s.size - (intOf i).toNat)
  case atStart => exact ⟨0, by omega, rfl, H0⟩
  case round =>
    obtain ⟨k, hk, rfl, HK⟩ := hrel
    obtain ⟨q, hq⟩ : ∃ q, p + k = q := ⟨_, rfl⟩
    rw [hq] at HK hk
    have w1 : (p : Int) + (k : Int) = (q : Int) := by omega
    have HQ := Lib.hid hq
    clear hq
    by_cases hlt : q < s.size
    · cases hd : isDg s[q] with
      | true =>
        have HN : Hid (D = (k + 1) + ((s.data.toList.drop (p + (k + 1))).takeWhile isDg).length) := Lib.hid (by have := HK.out; rw [tw_step _ s q hlt hd] at this; rw [show p + (k + 1) = q + 1 from by have := HQ.out; omega]; omega)
        clear HK
        go_wp2_with ((with_reducible refine (C1.out _ _).mono ?_); rw [hd]; rintro e w1 ⟨rfl, rfl⟩)
        go_round
        case rel => exact ⟨k + 1, by have := HQ.out; omega, by go_num, HN⟩
        case measure => have := HQ.out; simp [intOf]; omega
      | false =>
        have HE : Hid (D = k) := Lib.hid (by have := HK.out; rw [tw_stop _ s q (fun _ => hd)] at this; omega)
        clear HK
        go_wp2_with ((with_reducible refine (C1.out _ _).mono ?_); rw [hd]; rintro e w1 ⟨rfl, rfl⟩)
        go_ret
        rw [HE.out]; exact ⟨rfl, rfl⟩
    · have HE : Hid (D = k) := Lib.hid (by have := HK.out; rw [tw_stop _ s q (fun h => absurd h hlt)] at this; omega)
      clear HK
      go_wp2
      go_ret
      rw [HE.out]; exact ⟨rfl, rfl⟩

/-- What stands between blanks: a row of words. -/
def splitS : List UInt8 → List UInt8 → List (List UInt8)
  | cur, [] => [cur]
  | cur, c :: t => if c = 32 then cur :: splitS [] t else splitS (cur ++ [c]) t
theorem splitS_cons (cur : List UInt8) (c : UInt8) (t : List UInt8) : splitS cur (c :: t) = if c = 32 then cur :: splitS [] t else splitS (cur ++ [c]) t := rfl
theorem ext_mid (s : ByteArray) (i j : Nat) : (s.extract i j).data.toList = (s.data.toList.drop i).take (j - i) := by simp [ByteArray.data_extract]
theorem mid_snoc (s : ByteArray) (i j : Nat) (hij : i ≤ j) (hj : j < s.size) : (s.extract i (j + 1)).data.toList = (s.extract i j).data.toList ++ [s[j]] := by
  rw [ext_mid, ext_mid, show j + 1 - i = (j - i) + 1 from by omega, List.take_succ_eq_append_getElem (by rw [List.length_drop, ba_sz]; omega)]
  congr 1
  rw [List.getElem_drop]
  have : i + (j - i) = j := by omega
  simp only [this]; rfl
set_option maxHeartbeats 2000000 in
theorem among_any (t s : ByteArray) (w : World) (hs : s.size ≤ 1000) : Calls Try.prog 34 #[.string t, .string s] w fun e w' => e = .returned (.bool (decide (t.data.toList ∈ splitS [] s.data.toList))) ∧ w' = w := by
  obtain ⟨B, hB⟩ : ∃ B : Bool, decide (t.data.toList ∈ splitS [] s.data.toList) = B := ⟨_, rfl⟩
  rw [hB]
  obtain ⟨X, hX⟩ : ∃ X : Prop, (X ↔ t.data.toList ∈ splitS [] s.data.toList) := ⟨_, Iff.rfl⟩
  have HB : Hid (X ↔ B = true) := Lib.hid (by rw [hX, ← hB]; simp)
  have H0 : Hid (X ↔ t.data.toList ∈ splitS (s.extract 0 0).data.toList (s.data.toList.drop 0)) := Lib.hid (by rw [hX, ext_mid]; simp)
  clear hB hX
  go_enter Try.func34, Try.ntmps34
  go_wp2
  go_loop [5, 6] (fun fv iv => ∃ (i k : Nat), i ≤ k ∧ k ≤ s.size + 1 ∧ fv = .int .i64 i ∧ iv = .int .i64 k ∧ (k ≤ s.size → Hid (X ↔ t.data.toList ∈ splitS (s.extract i k).data.toList (s.data.toList.drop k))) ∧ (k = s.size + 1 → Hid (¬ X))) (fun _ iv => s.size + 1 - (intOf iv).toNat)
  case atStart => exact ⟨0, 0, Nat.le_refl _, by omega, rfl, rfl, fun _ => H0, fun h => by omega⟩
  case round =>
    obtain ⟨i, k, hik, hk, rfl, rfl, HK, HN⟩ := hrel
    by_cases hlt : k < s.size
    · have HK := HK (by omega)
      clear HN
      have n1 : (k : Int) ≤ (s.size : Int) := by omega
      have n2 : ((k : Int) == (s.size : Int)) = false := by rw [beq_eq_false_iff_ne]; omega
      by_cases h32 : (s[k].toNat : Int) = 32
      · have c32 : s[k] = 32 := nat_of (by decide) h32
        have hd : X ↔ t.data.toList = (s.extract i k).data.toList ∨ t.data.toList ∈ splitS [] (s.data.toList.drop (k + 1)) := by
          rw [HK.out, drop_at s k hlt, splitS_cons, if_pos c32, List.mem_cons]
        have h321 : ((s[k].toNat : Int) == 32) = true := by rw [h32]; rfl
        rcases is_or2 (s.extract i k) t.toList with ⟨h1, h2⟩ | ⟨h1, h2⟩
        · have hBt : B = true := HB.out.1 (hd.2 (.inl (by rw [h2, ByteArray.toList_eq])))
          subst hBt
          clear HK hd h2 c32
          go_wp2
          go_ret
          exact ⟨rfl, rfl⟩
        · have HN : Hid (X ↔ t.data.toList ∈ splitS (s.extract (k + 1) (k + 1)).data.toList (s.data.toList.drop (k + 1))) := Lib.hid (by
            rw [hd, show (s.extract (k + 1) (k + 1)).data.toList = [] from by rw [ext_mid]; simp]
            exact ⟨fun h => h.resolve_left (fun e => h2 (by rw [← e, ByteArray.toList_eq])), .inr⟩)
          clear HK hd h2 c32
          go_wp2
          go_round
          case rel => exact ⟨k + 1, k + 1, Nat.le_refl _, by omega, by go_num, by go_num, fun _ => HN, fun h => by omega⟩
          case measure => simp [intOf]; omega
      · have c32 : ¬ s[k] = 32 := fun e => h32 (by rw [e]; rfl)
        have h321 : ((s[k].toNat : Int) == 32) = false := by simpa using h32
        have HN : Hid (X ↔ t.data.toList ∈ splitS (s.extract i (k + 1)).data.toList (s.data.toList.drop (k + 1))) := Lib.hid (by
          rw [HK.out, drop_at s k hlt, mid_snoc s i k hik hlt, splitS_cons, if_neg c32])
        clear HK c32
        go_wp2
        go_round
        case rel => exact ⟨i, k + 1, by omega, by omega, by go_num, by go_num, fun _ => HN, fun h => by omega⟩
        case measure => simp [intOf]; omega
    · by_cases hke : k = s.size
      · subst hke
        have HK := HK (Nat.le_refl _)
        clear HN
        have hd : X ↔ t.data.toList = (s.extract i s.size).data.toList := by
          rw [HK.out, drop_end s s.size (Nat.le_refl _)]; unfold splitS; simp
        rcases is_or2 (s.extract i s.size) t.toList with ⟨h1, h2⟩ | ⟨h1, h2⟩
        · have hBt : B = true := HB.out.1 (hd.2 (by rw [h2, ByteArray.toList_eq]))
          subst hBt
          clear HK hd h2
          go_wp2
          go_ret
          exact ⟨rfl, rfl⟩
        · have HN : Hid (¬ X) := Lib.hid (by rw [hd]; exact fun e => h2 (by rw [← e, ByteArray.toList_eq]))
          clear HK hd h2
          go_wp2
          go_round
          case rel => exact ⟨s.size + 1, s.size + 1, Nat.le_refl _, Nat.le_refl _, by go_num, by go_num, fun h => by omega, fun _ => HN⟩
          case measure => simp [intOf]
      · have hke2 : k = s.size + 1 := by omega
        subst hke2
        have hnX := (HN rfl).out
        have hBf : B = false := by
          cases B with
          | false => rfl
          | true => exact absurd (HB.out.2 rfl) hnX
        subst hBf
        clear HK HN hnX HB
        have n1 : ¬ (s.size : Int) + 1 ≤ (s.size : Int) := by omega
        go_wp2
        go_ret
        exact ⟨rfl, rfl⟩
theorem among_is (t s : ByteArray) (l : List (List UInt8)) (hl : splitS [] s.data.toList = l) (b : Bool) (hb : decide (t.data.toList ∈ l) = b) (w : World) (hs : s.size ≤ 1000) : Calls Try.prog 34 #[.string t, .string s] w fun e w' => e = .returned (.bool b) ∧ w' = w := by
  have := among_any t s w hs
  rw [hl, hb] at this
  exact this
end Go.Proofs.Ytfmjajmdkndknaa
