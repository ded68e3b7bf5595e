/-
  CONTRACTS of the document's own answers scriberef05.Looks and Text: what each hands back is what the mathematics says; nothing that was there is written.
-/
import Derived.Test.YtipcanbeegladaaGreatDoorRef5P
import Derived.Test.YtipcanbeegladaaGreatDoorNumLk
namespace Go.Proofs.YtipcanbeegladaaGreatDoor
open Go.RowKit

theorem all_drop (s : ByteArray) (k q : Nat) (hq : k ≤ q) (hall : ∀ j (hj : j < s.size), k ≤ j → j < q → blk s[j] = true) (hst : q < s.size → ∀ h : q < s.size, blk s[q] = false) (hqs : q ≤ s.size) : (s.data.toList.drop k).all blk = decide (q = s.size) := by
  by_cases h : q = s.size
  · rw [decide_eq_true h, List.all_eq_true]
    intro c hc
    obtain ⟨j, hj, hjc⟩ := List.mem_iff_getElem.1 hc
    rw [List.length_drop] at hj
    have hjs : k + j < s.size := by have : s.data.toList.length = s.size := by simp
                                    omega
    rw [List.getElem_drop] at hjc
    have h3 := at_list s (k + j) hjs
    rw [List.getElem?_eq_getElem (by simpa using hjs), hjc] at h3
    rw [Option.some.inj h3]
    exact hall (k + j) hjs (by omega) (by omega)
  · rw [decide_eq_false h, Bool.eq_false_iff]
    intro ha
    have hlt : q < s.size := by omega
    have hm : s[q] ∈ s.data.toList.drop k := by
      refine List.mem_of_getElem? (i := q - k) ?_
      rw [List.getElem?_drop, show k + (q - k) = q by omega]; exact at_list s q hlt
    have := List.all_eq_true.1 ha _ hm
    rw [hst hlt hlt] at this; cases this

/-! Text. -/
theorem trimR_of (y x z : List UInt8) (hz : y = x ++ z) (ha : z.all ([(48 : UInt8)].contains ·) = true) (hx : x = [] ∨ ∃ c x', x = x' ++ [c] ∧ c ≠ 48) : Lib.trimRightS y [48] = x := by
  rw [hz, trimR_all _ _ _ ha]
  rcases hx with rfl | ⟨c, x', rfl, hc⟩
  · rfl
  · rw [trimR_some x' [c] [48] (by simpa using hc)]
    congr 1
    unfold Lib.trimRightS
    have : ([(48 : UInt8)].contains c) = false := by simpa using hc
    simp [hc]
/-- What the padding has come to. -/
def Pad5 (n : Nat) (S : ByteArray) : Prop := ∃ j, S.data.toList = List.replicate j 48 ++ Lib.decDigits n ∧ (j = 0 ∨ S.size ≤ 7)
theorem pad_end {n : Nat} {S : ByteArray} (h : Pad5 n S) (h7 : 7 ≤ S.size) : S.data.toList = Lib.decDigits (n / 1000000) ++ six (n % 1000000) ∧ S.size = (Lib.decDigits (n / 1000000)).length + 6 := by
  obtain ⟨j, hj, h1⟩ := h
  have hl : S.size = j + Lib.nDigits n := by
    have := congrArg List.length hj
    rw [List.length_append, List.length_replicate, Lib.decDigits_length] at this
    rw [← this]; simp
  have hje : j = 7 - Lib.nDigits n := by omega
  have e : S.data.toList = Lib.decDigits (n / 1000000) ++ six (n % 1000000) := by rw [hj, hje]; exact seven n
  refine ⟨e, ?_⟩
  have := congrArg List.length e
  rw [List.length_append, six_len _ (Nat.mod_lt _ (by decide))] at this
  rw [← this]; simp
theorem pad_next {n : Nat} {S : ByteArray} (h : Pad5 n S) (h7 : S.size < 7) : Pad5 n (⟨#[48]⟩ ++ S) := by
  obtain ⟨j, hj, h1⟩ := h
  refine ⟨j + 1, ?_, .inr ?_⟩
  · rw [ByteArray.data_append, Array.toList_append, hj, List.replicate_succ]; rfl
  · rw [ByteArray.size_append, show (⟨#[48]⟩ : ByteArray).size = 1 from rfl]; omega
/-- What is left of the places. -/
def Prt5 (m : Nat) (S : ByteArray) : Prop := ∃ z, six m = S.data.toList ++ z ∧ z.all ([(48 : UInt8)].contains ·) = true
theorem prt_next {m : Nat} {S : ByteArray} (h : Prt5 m S) (h0 : 0 < S.size) (h48 : S[S.size - 1] = 48) : Prt5 m (S.extract 0 (S.size - 1)) := by
  obtain ⟨z, hz, ha⟩ := h
  refine ⟨48 :: z, ?_, by simpa using ha⟩
  have e : S.data.toList = S.data.toList.take (S.size - 1) ++ [48] := by
    have := take_next S (S.size - 1) (by omega)
    rw [show S.size - 1 + 1 = S.size by omega, h48] at this
    rw [← this, List.take_of_length_le (by simp)]
  rw [ext0]
  conv at hz => rhs; rw [e]
  rw [hz]; simp
theorem prt_end {m : Nat} {S : ByteArray} (h : Prt5 m S) (hend : ∀ h0 : 0 < S.size, S[S.size - 1] ≠ 48) : S.data.toList = Lib.trimRightS (six m) [48] := by
  obtain ⟨z, hz, ha⟩ := h
  refine (trimR_of _ _ _ hz ha ?_).symm
  by_cases h0 : 0 < S.size
  · right
    refine ⟨S[S.size - 1], S.data.toList.take (S.size - 1), ?_, hend h0⟩
    have := take_next S (S.size - 1) (by omega)
    rw [show S.size - 1 + 1 = S.size by omega] at this
    rw [← this, List.take_of_length_le (by simp)]
  · left
    exact List.eq_nil_of_length_eq_zero (by have : S.data.toList.length = S.size := by simp
                                            omega)
theorem frac_nil {m : Nat} (hm : m < 1000000) (h : Lib.trimRightS (six m) [48] = []) : fracL m = [] := by
  unfold fracL
  split
  · rfl
  · rename_i h0
    exfalso
    have ha := six_all m hm
    rw [decide_eq_false h0] at ha
    exact trimR_ne _ _ ha h
theorem frac_some {m : Nat} (h : Lib.trimRightS (six m) [48] ≠ []) : fracL m = 46 :: Lib.trimRightS (six m) [48] := by
  unfold fracL
  rw [if_neg]
  rintro rfl
  exact h (by decide +kernel)
theorem ba_len (P : ByteArray) : P.data.toList.length = P.size := by simp
def strLen : Value → Nat
  | .string s => s.size
  | _ => 0
set_option maxHeartbeats 4000000 in
set_option maxRecDepth 100000 in
theorem rtext_any (a : Int) (w : World) (ha : OkN a) :
    Calls Tryz.prog 56 #[.int .i64 a] w fun e w' => e = .returned (.string ⟨(textL a).toArray⟩) ∧ Below w.heap.size w w' := by
  unfold OkN at ha
  have C1 := fun W => rsize_any a W (by omega) (by omega)
  obtain ⟨n, hn⟩ : ∃ n, a.natAbs = n := ⟨_, rfl⟩
  rw [hn] at C1
  have hnb : n < 18446744073709551616 := by omega
  obtain ⟨D, hD, hDs⟩ := has_ba (Lib.decDigits n)
  have C2 := Lib.hid fun W => (refdigits_any n W hnb).mono fun e w' (h : e = .returned (.string ⟨(Lib.decDigits n).toArray⟩) ∧ Below W.heap.size W w') => (⟨by rw [h.1]; exact ret_s (ba_of _ _ hD).symm, h.2⟩ : e = .returned (.string D) ∧ Below W.heap.size W w')
  have hDl : D.size ≤ 20 := by rw [hDs, Lib.decDigits_length]; exact Lib.nDigits_le20 n hnb
  have hP0 : Hid (Pad5 n D) := Lib.hid ⟨0, by rw [hD]; rfl, .inl rfl⟩
  have HC1 := Lib.hid C1
  have HT : Hid (textL a = (if a < 0 then [45] else []) ++ (Lib.decDigits (n / 1000000) ++ fracL (n % 1000000))) := Lib.hid (by unfold textL; rw [hn])
  clear C1 hn hnb hD hDs
  have h481 : (⟨#[48]⟩ : ByteArray).size = 1 := rfl
  have h461 : (⟨#[46]⟩ : ByteArray).size = 1 := rfl
  have h451 : (⟨#[45]⟩ : ByteArray).size = 1 := rfl
  go_enter Tryz.func56, Tryz.ntmps56
  go_wp2_with ((with_reducible refine (HC1.out _).mono ?_); rintro e w' ⟨rfl, rfl⟩)
  refine (C2.out _).mono ?_
  rintro e w1 ⟨rfl, hb1⟩
  have HB1 := Lib.hid hb1
  clear hb1
  go_wp2_with fail
  go_loop [3] (fun sv => ∃ S : ByteArray, S.size ≤ 20 ∧ sv = .string S ∧ Hid (Pad5 n S)) (fun sv => 7 - strLen sv)
  case atStart => exact ⟨D, hDl, rfl, hP0⟩
  case round =>
    obtain ⟨S, hS20, rfl, hpad⟩ := hrel
    by_cases h7 : S.size < 7
    · have HN := Lib.hid (pad_next hpad.out h7)
      have hS6 : (⟨#[48]⟩ ++ S : ByteArray).size ≤ 7 := by rw [ByteArray.size_append]; omega
      have HSZ := Lib.hid (show (⟨#[48]⟩ ++ S : ByteArray).size = S.size + 1 by rw [ByteArray.size_append]; omega)
      clear hpad
      go_wp2
      go_round
      case rel => exact ⟨_, by omega, rfl, HN⟩
      case measure => have := HSZ.out; simp only [strLen]; omega
    · obtain ⟨hl, hsz⟩ := pad_end hpad.out (by omega)
      obtain ⟨Wh, hWe⟩ : ∃ X, S.extract 0 (S.size - 6) = X := ⟨_, rfl⟩
      obtain ⟨Pt, hPe⟩ : ∃ X, S.extract (S.size - 6) S.size = X := ⟨_, rfl⟩
      have hWl : Wh.data.toList = Lib.decDigits (n / 1000000) := by rw [← hWe, ext0, hl, List.take_left' (by omega)]
      have hPl : Pt.data.toList = six (n % 1000000) := by rw [← hPe, extk, hl, List.drop_left' (by omega)]
      have hWs : Wh.size ≤ 20 := by rw [← hWe]; simp; omega
      have hPs : Pt.size ≤ 6 := by rw [← hPe]; simp; omega
      have HW := Lib.hid hWl
      have HP : Hid (Prt5 (n % 1000000) Pt) := Lib.hid ⟨[], by rw [hPl]; simp, rfl⟩
      have e6 : (S.size : Int) - 6 = ((S.size - 6 : Nat) : Int) := by omega
      clear hl hsz hWl hPl hpad
      go_wp2
      go_quiet (fail)
      go_wp2
      have HB2 : Hid (Below w.heap.size w (w1.drewN nq)) := Lib.hid (HB1.out.trans (Dr.below ⟨nq, rfl⟩ |>.mono HB1.out.size))
      generalize w1.drewN nq = w2 at *
      clear hWe hPe e6 h7 hS20
      go_loop [5] (fun sv => ∃ P : ByteArray, P.size ≤ 6 ∧ sv = .string P ∧ Hid (Prt5 (n % 1000000) P)) (fun sv => strLen sv)
      case atStart => exact ⟨Pt, hPs, rfl, HP⟩
      case round =>
        obtain ⟨P, hP6, rfl, hprt⟩ := hrel
        have HK : True := trivial
        by_cases hp0 : 0 < P.size
        · obtain ⟨q, hq⟩ : ∃ q, P.size = q + 1 := ⟨P.size - 1, by omega⟩
          have hqlt : q < P.size := by omega
          have e7 : (P.size : Int) - 1 = (q : Int) := by omega
          have hpi : (0 : Int) < (P.size : Int) := by omega
          have HQ := Lib.hid hq
          by_cases h48 : (P[q].toNat : Int) = 48
          · have HN := Lib.hid (prt_next hprt.out hp0 (by
              have : P.size - 1 = q := by omega
              simp only [this]
              apply UInt8.toNat_inj.1; show P[q].toNat = 48; omega))
            have hqe : P.size - 1 = q := by omega
            rw [hqe] at HN
            have HSZ := Lib.hid (show (P.extract 0 q).size = q by simp; omega)
            clear hprt hq hqe
            go_wp2
            go_round
            case rel => exact ⟨_, by have := HSZ.out; omega, rfl, HN⟩
            case measure => have := HSZ.out; have := HQ.out; simp only [strLen]; omega
          · have b48 : ((P[q].toNat : Int) == 48) = false := by simpa using h48
            have hend : ∀ h0 : 0 < P.size, P[P.size - 1] ≠ 48 := fun h0 h => by
              have : P.size - 1 = q := by omega
              simp only [this] at h
              rw [h] at h48; exact h48 rfl
            have HF := Lib.hid (prt_end hprt.out (hend))
            clear hend hq
            have hz : ¬ P.size = 0 := by omega
            · have HX : Hid (textL a = (if a < 0 then [45] else []) ++ (Wh.data.toList ++ (46 :: P.data.toList))) := Lib.hid (by
                have hne : P.data.toList ≠ [] := fun h => hz ((ba_len P).symm.trans (by rw [h]; rfl))
                rw [HT.out, frac_some (by rw [← HF.out]; exact hne), HW.out, HF.out])
              have hzi : (0 : Int) < (P.size : Int) := by omega
              clear hprt HF hz HK
              by_cases hneg : a < 0
              all_goals
                go_wp2
                go_ret
                refine ⟨ret_s (ba_of _ _ ?_), HB2.out⟩
                rw [HX.out]; simp [hneg]
        · have hpi : ¬ (0 : Int) < (P.size : Int) := by omega
          have HF := Lib.hid (prt_end hprt.out (fun h => absurd h hp0))
          have hz : P.size = 0 := by omega
          · have HX : Hid (textL a = (if a < 0 then [45] else []) ++ Wh.data.toList) := Lib.hid (by
              have hnil : P.data.toList = [] := List.eq_nil_of_length_eq_zero ((ba_len P).trans hz)
              rw [HT.out, frac_nil (Nat.mod_lt _ (by decide)) (HF.out.symm.trans hnil), HW.out, List.append_nil])
            have hzi : (P.size : Int) = 0 := by omega
            clear hprt HF hz HK
            by_cases hneg : a < 0
            all_goals
              go_wp2
              go_ret
              refine ⟨ret_s (ba_of _ _ ?_), HB2.out⟩
              rw [HX.out]; simp [hneg]
end Go.Proofs.YtipcanbeegladaaGreatDoor
