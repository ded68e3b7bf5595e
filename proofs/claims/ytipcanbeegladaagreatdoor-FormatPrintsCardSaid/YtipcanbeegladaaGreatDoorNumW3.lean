/-
  CONTRACTS of layer 5's Text, Prefix, Looks: what each hands back; nothing that was there is written. Condition of Text: the library's table of powers of ten is as it was laid.
-/
import Derived.Test.YtipcanbeegladaaGreatDoorNumW2
namespace Go.Proofs.YtipcanbeegladaaGreatDoor
open Go.RowKit

theorem ret_s {a b : ByteArray} (h : a = b) : Ending.returned (.string a) = .returned (.string b) := by rw [h]
theorem Dr.below {w w' : World} (h : Dr w w') : Below w.heap.size w w' := by
  obtain ⟨n, rfl⟩ := h
  exact ⟨rfl, rfl, rfl, Nat.le_refl _, fun _ _ => rfl⟩
set_option maxHeartbeats 1000000 in
theorem text_any (a : Int) (w : World) (ha : OkN a) (G : Gl w) :
    Calls Tryz.prog 53 #[.int .i64 a] w fun e w' => e = .returned (.string ⟨(textL a).toArray⟩) ∧ Below w.heap.size w w' := by
  unfold OkN at ha
  have sz := fun W => size_any a W (by omega) (by omega)
  obtain ⟨n, hn⟩ : ∃ n, a.natAbs = n := ⟨_, rfl⟩
  obtain ⟨q, hq⟩ : ∃ q, n / 1000000 = q := ⟨_, rfl⟩
  obtain ⟨m, hm⟩ : ∃ m, n % 1000000 = m := ⟨_, rfl⟩
  obtain ⟨m2, hm2⟩ : ∃ m2, 1000000 + m = m2 := ⟨_, rfl⟩
  have e1 : (n : Int) / 1000000 = (q : Int) := by omega
  have e2 : (n : Int) % 1000000 = (m : Int) := by omega
  have e3 : 1000000 + (m : Int) = (m2 : Int) := by omega
  have e1' : IntKind.u64.wrap (q : Int) = (q : Int) := Mul64.wrapN _ (by omega)
  have e3' : IntKind.u64.wrap (m2 : Int) = (m2 : Int) := Mul64.wrapN _ (by omega)
  rw [hn] at sz
  obtain ⟨D, hD⟩ : ∃ D : ByteArray, (⟨(Lib.decDigits q).toArray⟩ : ByteArray) = D := ⟨_, rfl⟩
  obtain ⟨S1, hS1⟩ : ∃ D : ByteArray, (⟨(Lib.decDigits m2).toArray⟩ : ByteArray) = D := ⟨_, rfl⟩
  have uq := fun W G => uint_any q W (by omega) G
  have um := fun W G => uint_any m2 W (by omega) G
  rw [hD] at uq
  rw [hS1] at um
  have hDs : D.size ≤ 20 := by
    rw [← hD]; show (Lib.decDigits q).toArray.size ≤ 20
    rw [List.size_toArray, Lib.decDigits_length]; exact Lib.nDigits_le20 q (by omega)
  have hSs : S1.size = 7 := by
    rw [← hS1]; show (Lib.decDigits m2).toArray.size = 7
    rw [List.size_toArray, Lib.decDigits_length, ← hm2]; exact nd7 m (by omega)
  obtain ⟨S, hS⟩ : ∃ S : ByteArray, S1.extract 1 S1.size = S := ⟨_, rfl⟩
  have hSs2 : S.size = 6 := by rw [← hS]; simp [hSs]
  have h46 : (⟨#[46]⟩ : ByteArray).size = 1 := rfl
  obtain ⟨T0, hT0⟩ : ∃ S' : ByteArray, D ++ ⟨#[46]⟩ ++ S = S' := ⟨_, rfl⟩
  have hT0s : T0.size ≤ 27 := by rw [← hT0]; simp [ByteArray.size_append, hSs2]; omega
  have tr := fun W => Tryz.strings_TrimRight_one T0 48 (by decide) W (by omega)
  obtain ⟨T1, hT1⟩ : ∃ S' : ByteArray, (⟨(Lib.trimRightB T0.data.toList 48).toArray⟩ : ByteArray) = S' := ⟨_, rfl⟩
  rw [hT1] at tr
  have hT1s : T1.size ≤ 27 := by
    rw [← hT1]; show (Lib.trimRightB T0.data.toList 48).toArray.size ≤ 27
    rw [List.size_toArray]
    unfold Lib.trimRightB
    rw [List.length_reverse]
    have := (List.dropWhile_sublist (· == (48 : UInt8)) (l := T0.data.toList.reverse)).length_le
    rw [List.length_reverse] at this
    exact Nat.le_trans this (by simpa using hT0s)
  have ts := fun W => Tryz.strings_TrimSuffix T1 ⟨#[46]⟩ W (by omega)
  obtain ⟨T2, hT2⟩ : ∃ S' : ByteArray, (⟨(Lib.trimSuffix T1.data.toList [46]).toArray⟩ : ByteArray) = S' := ⟨_, rfl⟩
  have ts' : ∀ W, Calls Tryz.prog 81 #[.string T1, .string ⟨#[46]⟩] W fun e w' => e = .returned (.string T2) ∧ w' = W := fun W => by rw [← hT2]; exact ts W
  have hT2s : T2.size ≤ 27 := by
    rw [← hT2]; show (Lib.trimSuffix T1.data.toList [46]).toArray.size ≤ 27
    rw [List.size_toArray]
    unfold Lib.trimSuffix
    have : T1.data.toList.length ≤ 27 := by simpa using hT1s
    split
    · rw [List.length_take]; omega
    · exact this
  have hfin : textL a = (if a < 0 then [45] else []) ++ T2.data.toList := by
    unfold textL
    rw [hn, ← text_trim n, hq, hm, hm2, ← hT2, ← hT1]
    simp only
    rw [← Lib.trimRightS_one, ← hT0, ← hS, ByteArray.data_append, ByteArray.data_append, Array.toList_append, Array.toList_append, extk, ← hD, ← hS1]
    simp
  have HF := Lib.hid hfin
  have HG := Lib.hid G
  have HTR := Lib.hid tr
  have HTS := Lib.hid ts'
  have HUQ := Lib.hid uq
  have HUM := Lib.hid um
  rw [hSs] at hS
  clear hn hq hm hm2 hD hS1 hT1 hT2 hfin G tr ts ts' uq um
  have hsz1 : (S1.size : Int) = 7 := by omega
  by_cases hneg : a < 0
  all_goals
    go_enter Tryz.func53, Tryz.ntmps53
    go_wp2_with (go_at_call 79; (with_reducible refine (sz _).mono ?_); rintro e w' ⟨rfl, rfl⟩)
    refine (HUQ.out _ HG.out).mono ?_
    rintro e w1 ⟨rfl, hb1⟩
    have HB1 := Lib.hid hb1
    clear hb1
    go_wp2_with fail
    refine (HUM.out _ (HG.out.next HB1.out)).mono ?_
    rintro e w2 ⟨rfl, hb2⟩
    have HB2 := Lib.hid (HB1.out.trans (hb2.mono HB1.out.size))
    clear hb2 HB1
    go_wp2_with fail
    refine (HTR.out _).mono ?_
    rintro e w' ⟨rfl, rfl⟩
    go_wp2_with fail
    refine (HTS.out _).mono ?_
    rintro e w' ⟨rfl, rfl⟩
    go_wp2_with fail
    go_ret
    refine ⟨ret_s (ba_of _ _ ?_), HB2.out⟩
    rw [HF.out]
    simp [hneg]

theorem hp_one (r : List UInt8) (c : UInt8) : Lib.hasPrefix r [c] = decide (r.head? = some c) := by
  unfold Lib.hasPrefix
  cases r with
  | nil => simp [List.isPrefixOf]
  | cons a r => rw [Bool.eq_iff_iff]; simp [List.isPrefixOf]; exact eq_comm
/-- A text as a list, with its length. -/
theorem has_ba (l : List UInt8) : ∃ B : ByteArray, B.data.toList = l ∧ B.size = l.length := ⟨⟨l.toArray⟩, by simp, by show l.toArray.size = _; simp⟩
theorem tl_any (s R0 : ByteArray) (h : R0.data.toList = s.data.toList.dropWhile blk) (w : World) :
    Calls Tryz.prog 59 #[.string s, .string ⟨#[32, 9, 10]⟩] w fun e w' => e = .returned (.string R0) ∧ Below w.heap.size w w' := by
  refine (Any.strings_TrimLeft_laid Tryz.lays161 (by kernel_rfl) s ⟨#[32, 9, 10]⟩ w (by decide) (ascii_of_all (by decide))).mono ?_
  rintro e w' ⟨rfl, hb⟩
  exact ⟨ret_s (ba_of _ _ h).symm, hb⟩
theorem hp_is (s : ByteArray) (c : UInt8) (b : Bool) (h : decide (s.data.toList.head? = some c) = b) (w : World) :
    Calls Tryz.prog 23 #[.string s, .string ⟨#[c]⟩] w fun e w' => e = .returned (.bool b) ∧ w' = w := by
  refine (Tryz.strings_HasPrefix s ⟨#[c]⟩ w).mono ?_
  rintro e w' ⟨rfl, rfl⟩
  refine ⟨?_, rfl⟩
  rw [← h, ← hp_one]
theorem cd_is (s A B : ByteArray) (hs : s.size ≤ 4000000000) (hA : A.data.toList = s.data.toList.takeWhile isD) (hB : B.data.toList = s.data.toList.dropWhile isD) (w : World) :
    Calls Tryz.prog 60 #[.string s] w fun e w' => e = .returned (.tuple #[.string A, .string B]) ∧ Below w.heap.size w w' := by
  refine (cut_digits s w hs).mono ?_
  rintro e w' ⟨rfl, hb⟩
  exact ⟨ret_s2 (ba_of _ _ hA).symm (ba_of _ _ hB).symm, hb.below⟩
/-- Prefix's answer, the digits being known. -/
def PPost (Wh Be : ByteArray) (v k : Int) (w : World) (e : Ending) (w' : World) : Prop :=
  e = .returned (.tuple #[.int .i64 (if Wh.data.toList = [] ∧ Be.data.toList = [] then 0 else v), .int .i64 (if Wh.data.toList = [] ∧ Be.data.toList = [] then 0 else k)]) ∧ Below w.heap.size w w'
theorem toList_data' (s : ByteArray) : s.toList = s.data.toList := by rw [ByteArray.toList_eq]
theorem ppost0 {Wh Be : ByteArray} {v k : Int} {w w' : World} (h1 : Wh.toList = []) (h2 : Be.toList = []) (hb : Below w.heap.size w w') : PPost Wh Be v k w (.returned (.tuple #[.int .i64 0, .int .i64 0])) w' := by
  rw [toList_data'] at h1 h2
  unfold PPost; rw [if_pos ⟨h1, h2⟩, if_pos ⟨h1, h2⟩]; exact ⟨rfl, hb⟩
theorem ppost1 {Wh Be : ByteArray} {v k : Int} {w w' : World} (h : ¬ (Wh.toList = [] ∧ Be.toList = [])) (hb : Below w.heap.size w w') : PPost Wh Be v k w (.returned (.tuple #[.int .i64 v, .int .i64 k])) w' := by
  rw [toList_data', toList_data'] at h
  unfold PPost; rw [if_neg h, if_neg h]; exact ⟨rfl, hb⟩
set_option maxHeartbeats 2000000 in
/-- Prefix, what it cuts off having been named. -/
theorem prefix_walk (s R0 R1 Wh R2 R2b Be R3 : ByteArray) (b45 b43 b46 : Bool) (n : Nat) (v : Int) (k : Nat) (w : World) (hs : s.size ≤ 4000000000)
    (c1 : Hid (∀ W, Calls Tryz.prog 59 #[.string s, .string ⟨#[32, 9, 10]⟩] W fun e w' => e = .returned (.string R0) ∧ Below W.heap.size W w'))
    (c2 : Hid (∀ W, Calls Tryz.prog 23 #[.string R0, .string ⟨#[45]⟩] W fun e w' => e = .returned (.bool b45) ∧ w' = W))
    (c3 : Hid (∀ W, Calls Tryz.prog 23 #[.string R0, .string ⟨#[43]⟩] W fun e w' => e = .returned (.bool b43) ∧ w' = W))
    (hR1 : (b45 || b43) = true → R0.extract 1 R0.size = R1 ∧ 1 ≤ R0.size) (hR1' : (b45 || b43) = false → R1 = R0) (hR0s : R0.size ≤ 4000000000)
    (c4 : Hid (∀ W, Calls Tryz.prog 60 #[.string R1] W fun e w' => e = .returned (.tuple #[.string Wh, .string R2]) ∧ Below W.heap.size W w'))
    (c5 : Hid (∀ W, Calls Tryz.prog 23 #[.string R2, .string ⟨#[46]⟩] W fun e w' => e = .returned (.bool b46) ∧ w' = W))
    (hR2 : b46 = true → R2.extract 1 R2.size = R2b ∧ 1 ≤ R2.size) (hR2' : b46 = false → R3 = R2 ∧ Be = ⟨#[]⟩) (hR2s : R2.size ≤ 4000000000)
    (c6 : Hid (b46 = true → ∀ W, Calls Tryz.prog 60 #[.string R2b] W fun e w' => e = .returned (.tuple #[.string Be, .string R3]) ∧ Below W.heap.size W w'))
    (c7 : Hid (∀ W, Calls Tryz.prog 62 #[.string Wh, .string Be] W fun e w' => e = .returned (.int .u64 (n : Int)) ∧ W = w'))
    (c8 : Hid (∀ W, Calls Tryz.prog 61 #[.bool b45, .int .u64 n] W fun e w' => e = .returned (.int .i64 v) ∧ W = w'))
    (hR3s : R3.size + k = s.size) :
    Calls Tryz.prog 44 #[.string s] w (PPost Wh Be v k w) := by
  have hkk : (s.size : Int) - (R3.size : Int) = (k : Int) := by omega
  have hsi : (s.size : Int) ≤ 4000000000 := by omega
  have h3i : (R3.size : Int) ≤ 4000000000 := by omega
  have HK := Lib.hid hR3s
  clear hR3s
  cases b45
  · cases b43
    · obtain rfl := hR1' rfl
      clear hR1 hR1'
      cases b46
      · obtain ⟨rfl, rfl⟩ := hR2' rfl
        clear hR2 hR2'
        go_enter Tryz.func44, Tryz.ntmps44
        go_wp2_with fail
        refine (c1.out _).mono ?_
        rintro e w1 ⟨rfl, hb1⟩
        have HB1 := Lib.hid hb1
        clear hb1
        go_wp2_with (first
          | ((with_reducible refine (c2.out _).mono ?_); rintro e w' ⟨rfl, rfl⟩)
          | ((with_reducible refine (c3.out _).mono ?_); rintro e w' ⟨rfl, rfl⟩))
        refine (c4.out _).mono ?_
        rintro e w2 ⟨rfl, hb2⟩
        have HB2 := Lib.hid (HB1.out.trans (hb2.mono HB1.out.size))
        clear hb2 HB1
        go_wp2_with (first
          | ((with_reducible refine (c5.out _).mono ?_); rintro e w' ⟨rfl, rfl⟩)
          | ((with_reducible refine (c7.out _).mono ?_); rintro e w' ⟨rfl, rfl⟩)
          | ((with_reducible refine (c8.out _).mono ?_); rintro e w' ⟨rfl, rfl⟩))
        all_goals
          go_ret2
          first
            | exact ppost0 (Wh := Wh) (by assumption) (by first | rfl | simp | decide) HB2.out
            | exact ppost1 (Wh := Wh) (fun h => by simp_all) HB2.out
            | (exfalso; simp_all; done)
      · obtain ⟨hx2, hy2⟩ := hR2 rfl
        clear hR2 hR2'
        by_cases hWe : Wh.toList = [] <;> by_cases hBe : Be.toList = []
        all_goals
          have hWe' : Wh.toList.isEmpty = decide (Wh.toList = []) := by cases Wh.toList <;> rfl
          have hBe' : Be.toList.isEmpty = decide (Be.toList = []) := by cases Be.toList <;> rfl
          simp only [hWe, decide_true, decide_false] at hWe'
          simp only [hBe, decide_true, decide_false] at hBe'
          go_enter Tryz.func44, Tryz.ntmps44
          go_wp2_with fail
          refine (c1.out _).mono ?_
          rintro e w1 ⟨rfl, hb1⟩
          have HB1 := Lib.hid hb1
          clear hb1
          go_wp2_with (first
            | ((with_reducible refine (c2.out _).mono ?_); rintro e w' ⟨rfl, rfl⟩)
            | ((with_reducible refine (c3.out _).mono ?_); rintro e w' ⟨rfl, rfl⟩))
          refine (c4.out _).mono ?_
          rintro e w2 ⟨rfl, hb2⟩
          have HB2 := Lib.hid (HB1.out.trans (hb2.mono HB1.out.size))
          clear hb2 HB1
          go_wp2_with ((with_reducible refine (c5.out _).mono ?_); rintro e w' ⟨rfl, rfl⟩)
          refine (c6.out (by trivial) _).mono ?_
          rintro e w3 ⟨rfl, hb3⟩
          have HB3 := Lib.hid (HB2.out.trans (hb3.mono HB2.out.size))
          clear hb3 HB2
          go_wp2_with (first
            | ((with_reducible refine (c7.out _).mono ?_); rintro e w' ⟨rfl, rfl⟩)
            | ((with_reducible refine (c8.out _).mono ?_); rintro e w' ⟨rfl, rfl⟩))
          all_goals
            go_ret2
            first
              | exact ppost0 (Wh := Wh) (Be := Be) (by assumption) (by assumption) HB3.out
              | exact ppost1 (Wh := Wh) (Be := Be) (fun h => by first | exact hWe h.1 | exact hBe h.2) HB3.out
              | (exfalso; simp_all; done)
    · obtain ⟨hx1, hy1⟩ := hR1 rfl
      clear hR1 hR1'
      cases b46
      · obtain ⟨rfl, rfl⟩ := hR2' rfl
        clear hR2 hR2'
        go_enter Tryz.func44, Tryz.ntmps44
        go_wp2_with fail
        refine (c1.out _).mono ?_
        rintro e w1 ⟨rfl, hb1⟩
        have HB1 := Lib.hid hb1
        clear hb1
        go_wp2_with (first
          | ((with_reducible refine (c2.out _).mono ?_); rintro e w' ⟨rfl, rfl⟩)
          | ((with_reducible refine (c3.out _).mono ?_); rintro e w' ⟨rfl, rfl⟩))
        refine (c4.out _).mono ?_
        rintro e w2 ⟨rfl, hb2⟩
        have HB2 := Lib.hid (HB1.out.trans (hb2.mono HB1.out.size))
        clear hb2 HB1
        go_wp2_with (first
          | ((with_reducible refine (c5.out _).mono ?_); rintro e w' ⟨rfl, rfl⟩)
          | ((with_reducible refine (c7.out _).mono ?_); rintro e w' ⟨rfl, rfl⟩)
          | ((with_reducible refine (c8.out _).mono ?_); rintro e w' ⟨rfl, rfl⟩))
        all_goals
          go_ret2
          first
            | exact ppost0 (Wh := Wh) (by assumption) (by first | rfl | simp | decide) HB2.out
            | exact ppost1 (Wh := Wh) (fun h => by simp_all) HB2.out
            | (exfalso; simp_all; done)
      · obtain ⟨hx2, hy2⟩ := hR2 rfl
        clear hR2 hR2'
        by_cases hWe : Wh.toList = [] <;> by_cases hBe : Be.toList = []
        all_goals
          have hWe' : Wh.toList.isEmpty = decide (Wh.toList = []) := by cases Wh.toList <;> rfl
          have hBe' : Be.toList.isEmpty = decide (Be.toList = []) := by cases Be.toList <;> rfl
          simp only [hWe, decide_true, decide_false] at hWe'
          simp only [hBe, decide_true, decide_false] at hBe'
          go_enter Tryz.func44, Tryz.ntmps44
          go_wp2_with fail
          refine (c1.out _).mono ?_
          rintro e w1 ⟨rfl, hb1⟩
          have HB1 := Lib.hid hb1
          clear hb1
          go_wp2_with (first
            | ((with_reducible refine (c2.out _).mono ?_); rintro e w' ⟨rfl, rfl⟩)
            | ((with_reducible refine (c3.out _).mono ?_); rintro e w' ⟨rfl, rfl⟩))
          refine (c4.out _).mono ?_
          rintro e w2 ⟨rfl, hb2⟩
          have HB2 := Lib.hid (HB1.out.trans (hb2.mono HB1.out.size))
          clear hb2 HB1
          go_wp2_with ((with_reducible refine (c5.out _).mono ?_); rintro e w' ⟨rfl, rfl⟩)
          refine (c6.out (by trivial) _).mono ?_
          rintro e w3 ⟨rfl, hb3⟩
          have HB3 := Lib.hid (HB2.out.trans (hb3.mono HB2.out.size))
          clear hb3 HB2
          go_wp2_with (first
            | ((with_reducible refine (c7.out _).mono ?_); rintro e w' ⟨rfl, rfl⟩)
            | ((with_reducible refine (c8.out _).mono ?_); rintro e w' ⟨rfl, rfl⟩))
          all_goals
            go_ret2
            first
              | exact ppost0 (Wh := Wh) (Be := Be) (by assumption) (by assumption) HB3.out
              | exact ppost1 (Wh := Wh) (Be := Be) (fun h => by first | exact hWe h.1 | exact hBe h.2) HB3.out
              | (exfalso; simp_all; done)
  · obtain ⟨hx1, hy1⟩ := hR1 rfl
    clear hR1 hR1'
    cases b46
    · obtain ⟨rfl, rfl⟩ := hR2' rfl
      clear hR2 hR2'
      go_enter Tryz.func44, Tryz.ntmps44
      go_wp2_with fail
      refine (c1.out _).mono ?_
      rintro e w1 ⟨rfl, hb1⟩
      have HB1 := Lib.hid hb1
      clear hb1
      go_wp2_with (first
        | ((with_reducible refine (c2.out _).mono ?_); rintro e w' ⟨rfl, rfl⟩)
        | ((with_reducible refine (c3.out _).mono ?_); rintro e w' ⟨rfl, rfl⟩))
      refine (c4.out _).mono ?_
      rintro e w2 ⟨rfl, hb2⟩
      have HB2 := Lib.hid (HB1.out.trans (hb2.mono HB1.out.size))
      clear hb2 HB1
      go_wp2_with (first
        | ((with_reducible refine (c5.out _).mono ?_); rintro e w' ⟨rfl, rfl⟩)
        | ((with_reducible refine (c7.out _).mono ?_); rintro e w' ⟨rfl, rfl⟩)
        | ((with_reducible refine (c8.out _).mono ?_); rintro e w' ⟨rfl, rfl⟩))
      all_goals
        go_ret2
        first
          | exact ppost0 (Wh := Wh) (by assumption) (by first | rfl | simp | decide) HB2.out
          | exact ppost1 (Wh := Wh) (fun h => by simp_all) HB2.out
          | (exfalso; simp_all; done)
    · obtain ⟨hx2, hy2⟩ := hR2 rfl
      clear hR2 hR2'
      by_cases hWe : Wh.toList = [] <;> by_cases hBe : Be.toList = []
      all_goals
        have hWe' : Wh.toList.isEmpty = decide (Wh.toList = []) := by cases Wh.toList <;> rfl
        have hBe' : Be.toList.isEmpty = decide (Be.toList = []) := by cases Be.toList <;> rfl
        simp only [hWe, decide_true, decide_false] at hWe'
        simp only [hBe, decide_true, decide_false] at hBe'
        go_enter Tryz.func44, Tryz.ntmps44
        go_wp2_with fail
        refine (c1.out _).mono ?_
        rintro e w1 ⟨rfl, hb1⟩
        have HB1 := Lib.hid hb1
        clear hb1
        go_wp2_with (first
          | ((with_reducible refine (c2.out _).mono ?_); rintro e w' ⟨rfl, rfl⟩)
          | ((with_reducible refine (c3.out _).mono ?_); rintro e w' ⟨rfl, rfl⟩))
        refine (c4.out _).mono ?_
        rintro e w2 ⟨rfl, hb2⟩
        have HB2 := Lib.hid (HB1.out.trans (hb2.mono HB1.out.size))
        clear hb2 HB1
        go_wp2_with ((with_reducible refine (c5.out _).mono ?_); rintro e w' ⟨rfl, rfl⟩)
        refine (c6.out (by trivial) _).mono ?_
        rintro e w3 ⟨rfl, hb3⟩
        have HB3 := Lib.hid (HB2.out.trans (hb3.mono HB2.out.size))
        clear hb3 HB2
        go_wp2_with (first
          | ((with_reducible refine (c7.out _).mono ?_); rintro e w' ⟨rfl, rfl⟩)
          | ((with_reducible refine (c8.out _).mono ?_); rintro e w' ⟨rfl, rfl⟩))
        all_goals
          go_ret2
          first
            | exact ppost0 (Wh := Wh) (Be := Be) (by assumption) (by assumption) HB3.out
            | exact ppost1 (Wh := Wh) (Be := Be) (fun h => by first | exact hWe h.1 | exact hBe h.2) HB3.out
            | (exfalso; simp_all; done)

/-- ████ Prefix. -/
theorem prefix_any (s : ByteArray) (w : World) (hs : s.size ≤ 1000000) :
    Calls Tryz.prog 44 #[.string s] w fun e w' => e = .returned (.tuple #[.int .i64 (prefixL s.data.toList).1, .int .i64 ((prefixL s.data.toList).2 : Int)]) ∧ Below w.heap.size w w' := by
  have lsz : ∀ (B : ByteArray) (l : List UInt8), B.data.toList = l → B.size = l.length := fun B l h => by rw [← h]; simp
  have hsl := lsz s _ rfl
  obtain ⟨R0, h0, h0s⟩ := has_ba (s.data.toList.dropWhile blk)
  have l0 := (List.dropWhile_sublist blk (l := s.data.toList)).length_le
  obtain ⟨R1, h1, h1s⟩ := has_ba (if R0.data.toList.head? = some 45 ∨ R0.data.toList.head? = some 43 then R0.data.toList.drop 1 else R0.data.toList)
  have l1 : R1.data.toList.length ≤ R0.data.toList.length := by rw [h1]; split <;> simp
  obtain ⟨Wh, hW, hWs⟩ := has_ba (R1.data.toList.takeWhile isD)
  obtain ⟨R2, h2, h2s⟩ := has_ba (R1.data.toList.dropWhile isD)
  have l2 := (List.dropWhile_sublist isD (l := R1.data.toList)).length_le
  obtain ⟨R2b, h2b, h2bs⟩ := has_ba (R2.data.toList.drop 1)
  obtain ⟨Be, hB, hBs⟩ := has_ba (if R2.data.toList.head? = some 46 then (R2.data.toList.drop 1).takeWhile isD else [])
  obtain ⟨R3, h3, h3s⟩ := has_ba (if R2.data.toList.head? = some 46 then (R2.data.toList.drop 1).dropWhile isD else R2.data.toList)
  have l3 : R3.data.toList.length ≤ R2.data.toList.length := by
    rw [h3]; split
    · exact Nat.le_trans (List.dropWhile_sublist isD).length_le (by simp)
    · exact Nat.le_refl _
  have lB : Be.data.toList.length ≤ R2.data.toList.length := by
    rw [hB]; split
    · exact Nat.le_trans (List.takeWhile_sublist isD).length_le (by simp)
    · simp
  have lW := (List.takeWhile_sublist isD (l := R1.data.toList)).length_le
  have r0 := lsz R0 _ rfl
  have r1 := lsz R1 _ rfl
  have r2 := lsz R2 _ rfl
  have r2b : R2b.size ≤ R2.size := by rw [h2bs, List.length_drop]; omega
  have rB := lsz Be _ rfl
  have rW := lsz Wh _ rfl
  have r3 := lsz R3 _ rfl
  rw [← h0] at l0
  rw [← h2] at l2
  rw [← hW] at lW
  have hWd : ∀ c ∈ Wh.data.toList, isD c = true := by rw [hW]; exact List.all_eq_true.1 List.all_takeWhile
  have hBd : ∀ c ∈ Be.data.toList, isD c = true := by
    rw [hB]; split
    · exact List.all_eq_true.1 List.all_takeWhile
    · intro c hc; cases hc
  have key := prefix_walk s R0 R1 Wh R2 R2b Be R3 (decide (R0.data.toList.head? = some 45)) (decide (R0.data.toList.head? = some 43)) (decide (R2.data.toList.head? = some 46))
    (min mostN (valD (Wh.data.toList ++ pad6 Be.data.toList))) (sgnI (decide (R0.data.toList.head? = some 45)) (min (min mostN (valD (Wh.data.toList ++ pad6 Be.data.toList))) mostN)) (s.size - R3.size) w (by omega)
    (Lib.hid (tl_any s R0 h0)) (Lib.hid (hp_is R0 45 _ rfl)) (Lib.hid (hp_is R0 43 _ rfl))
    (fun h => by
      have hh : R0.data.toList.head? = some 45 ∨ R0.data.toList.head? = some 43 := by simpa using h
      rw [if_pos hh] at h1
      refine ⟨WideShapes.bytes_inj (by rw [extk, h1]), ?_⟩
      rw [r0]
      cases hl : R0.data.toList with
      | nil => rw [hl] at hh; simp at hh
      | cons a l => simp)
    (fun h => by
      have hh : ¬ (R0.data.toList.head? = some 45 ∨ R0.data.toList.head? = some 43) := by simpa using h
      rw [if_neg hh] at h1
      exact WideShapes.bytes_inj h1)
    (by omega) (Lib.hid (cd_is R1 Wh R2 (by omega) hW h2)) (Lib.hid (hp_is R2 46 _ rfl))
    (fun h => by
      have hh : R2.data.toList.head? = some 46 := by simpa using h
      refine ⟨WideShapes.bytes_inj (by rw [extk, h2b]), ?_⟩
      rw [r2]
      cases hl : R2.data.toList with
      | nil => rw [hl] at hh; simp at hh
      | cons a l => simp)
    (fun h => by
      have hh : ¬ R2.data.toList.head? = some 46 := by simpa using h
      rw [if_neg hh] at h3 hB
      exact ⟨WideShapes.bytes_inj h3, WideShapes.bytes_inj (by rw [hB])⟩)
    (by omega) (Lib.hid fun h W => by
      have hh : R2.data.toList.head? = some 46 := by simpa using h
      rw [if_pos hh] at h3 hB
      exact cd_is R2b Be R3 (by omega) (by rw [h2b]; exact hB) (by rw [h2b]; exact h3) W) (Lib.hid fun W => mill_any Wh Be W (by omega) (by omega) hWd hBd) (Lib.hid fun W => signed_any _ _ W (Nat.lt_of_le_of_lt (Nat.min_le_left _ _) (by decide))) (by omega)
  refine key.mono ?_
  rintro e w' ⟨rfl, hb⟩
  refine ⟨?_, hb⟩
  have hp : prefixL s.data.toList = if Wh.data.toList = [] ∧ Be.data.toList = [] then (0, 0) else (sgnI (decide (R0.data.toList.head? = some 45)) (min mostN (valD (Wh.data.toList ++ pad6 Be.data.toList))), s.data.toList.length - R3.data.toList.length) := by
    unfold prefixL
    simp only
    rw [← h0, ← h1, ← h2, ← hW, ← hB, ← h3]
  rw [hp]
  by_cases he : Wh.data.toList = [] ∧ Be.data.toList = []
  · simp only [if_pos he]; rfl
  · simp only [if_neg he]
    rw [Nat.min_eq_left (Nat.min_le_left _ _), hsl, r3]
end Go.Proofs.YtipcanbeegladaaGreatDoor
