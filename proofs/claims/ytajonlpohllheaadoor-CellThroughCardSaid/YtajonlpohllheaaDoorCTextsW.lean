/-
  THE WALK of scribelaw06.CellTexts: it returns true, and nothing that was there is written.
-/
import Derived.Test.YtajonlpohllheaaDoorCellW3
import Derived.Test.YtajonlpohllheaaDoorNumM2
namespace Go.Proofs.YtajonlpohllheaaDoor
open Go.RowKit

theorem back3 (a : Int) (ha : -4611686018427387903 ≤ a ∧ a ≤ 4611686018427387903) : looksL (textL a) = (a, true) := by
  unfold looksL
  rw [back1 a ha]
  have : (textL a).length ≠ 0 := by
    unfold textL; rw [List.length_append, List.length_append]
    have := List.length_pos_iff.2 (dec_ne (a.natAbs / 1000000)); omega
  simp
  omega
theorem text_len (a : Int) (ha : OkN a) : (textL a).length ≤ 40 := by
  unfold OkN at ha
  have hm : a.natAbs % 1000000 < 1000000 := Nat.mod_lt _ (by decide)
  unfold textL fracL
  have h1 := Lib.nDigits_le20 (a.natAbs / 1000000) (by omega)
  have h2 : (Lib.trimRightS (six (a.natAbs % 1000000)) [48]).length ≤ 6 := by
    obtain ⟨z, hz, _⟩ := trimR_split (six (a.natAbs % 1000000)) [48]
    have := congrArg List.length hz
    rw [six_len _ hm, List.length_append] at this; omega
  rw [List.length_append, List.length_append, Lib.decDigits_length]
  split <;> split <;> simp <;> omega
/-- The order of two texts, by the model's '<' and by the library's Compare. -/
theorem less_comp : ∀ (x y : List UInt8), Lib.compareBytes x y = if Op.bytesLess x y then -1 else if x = y then 0 else 1
  | [], [] => by simp [Op.bytesLess, Lib.compareBytes]
  | [], b :: y => by simp [Op.bytesLess, Lib.compareBytes]
  | a :: x, [] => by simp [Op.bytesLess, Lib.compareBytes]
  | a :: x, b :: y => by
    rw [Op.bytesLess, Lib.compareBytes, less_comp x y]
    by_cases h1 : a < b
    · simp [h1]
    · by_cases h2 : b < a
      · have hne : ¬ a = b := by rintro rfl; exact h1 h2
        simp [h1, h2, hne]
      · obtain rfl : a = b := by
          apply UInt8.toNat_inj.1
          rw [UInt8.lt_iff_toNat_lt] at h1 h2; omega
        simp [h1]
abbrev ctextsW (w : World) : Ending → World → Prop := fun e w' => e = .returned (.bool true) ∧ Below w.heap.size w w'
set_option maxHeartbeats 8000000 in
set_option maxRecDepth 100000 in
theorem ctexts_in (s0 t0 s t S : ByteArray) (m n c d ik iN : Int) (w : World) (HG : Hid (Gl w)) (AW : Hid (∀ W, Gl W → Calls Tryd.prog 12 #[] W fun e w' => e = .returned (.bool true) ∧ Below W.heap.size W w'))
    (hm : -4611686018427387903 ≤ m ∧ m ≤ 4611686018427387903) (hn : -4611686018427387903 ≤ n ∧ n ≤ 4611686018427387903)
    (C1 : Hid (∀ W, Calls Tryd.prog 23 #[.string s0, .int .i64 50] W fun e w' => e = .returned (.string s) ∧ W = w'))
    (C2 : Hid (∀ W, Calls Tryd.prog 23 #[.string t0, .int .i64 50] W fun e w' => e = .returned (.string t) ∧ W = w'))
    (T1 : Hid (∀ W, Calls Tryd.prog 26 #[.string s] W fun e w' => e = .returned (.agg #[.int .i64 2, .int .i64 0, .string s]) ∧ Below W.heap.size W w'))
    (T2 : Hid (∀ W, Calls Tryd.prog 26 #[.string t] W fun e w' => e = .returned (.agg #[.int .i64 2, .int .i64 0, .string t]) ∧ Below W.heap.size W w'))
    (P1 : Hid (∀ W, Gl W → Calls Tryd.prog 21 #[.agg #[.int .i64 2, .int .i64 0, .string s], .agg #[.int .i64 2, .int .i64 0, .string t]] W fun e w' => e = .returned (.int .i64 c) ∧ Below W.heap.size W w'))
    (O1 : Hid (∀ W, Calls Tryd.prog 27 #[.int .i64 m] W fun e w' => e = .returned (.agg #[.int .i64 1, .int .i64 m, .string ⟨#[]⟩]) ∧ Below W.heap.size W w'))
    (O2 : Hid (∀ W, Calls Tryd.prog 27 #[.int .i64 n] W fun e w' => e = .returned (.agg #[.int .i64 1, .int .i64 n, .string ⟨#[]⟩]) ∧ Below W.heap.size W w'))
    (P2 : Hid (∀ W, Gl W → Calls Tryd.prog 21 #[.agg #[.int .i64 1, .int .i64 m, .string ⟨#[]⟩], .agg #[.int .i64 1, .int .i64 n, .string ⟨#[]⟩]] W fun e w' => e = .returned (.int .i64 d) ∧ Below W.heap.size W w'))
    (X1 : Hid (∀ W, Gl W → Calls Tryd.prog 31 #[.int .i64 m] W fun e w' => e = .returned (.string S) ∧ Below W.heap.size W w'))
    (N1 : Hid (∀ W, Calls Tryd.prog 24 #[.string S] W fun e w' => e = .returned (.agg #[.int .i64 3, .int .i64 m, .string S]) ∧ Below W.heap.size W w'))
    (P3 : Hid (∀ W, Gl W → Calls Tryd.prog 21 #[.agg #[.int .i64 3, .int .i64 m, .string S], .agg #[.int .i64 1, .int .i64 n, .string ⟨#[]⟩]] W fun e w' => e = .returned (.int .i64 d) ∧ Below W.heap.size W w'))
    (N2 : Hid (∀ W, Calls Tryd.prog 24 #[.string s] W fun e w' => e = .returned (.agg #[.int .i64 ik, .int .i64 iN, .string s]) ∧ Below W.heap.size W w'))
    (hik : ik = 3 ∨ (ik = 2 ∧ iN = 0))
    (hc : c = if Op.bytesLess s.toList t.toList then -1 else if s.toList = t.toList then 0 else 1) (hd : d = if m < n then -1 else if n < m then 1 else 0) :
    Calls Tryd.prog 8 #[.string s0, .string t0, .int .i64 m, .int .i64 n] w (ctextsW w) := by
  have hcc : (Op.bytesLess s.toList t.toList = true ∧ c = -1) ∨ (Op.bytesLess s.toList t.toList = false ∧ (s.toList == t.toList) = true ∧ c = 0) ∨ (Op.bytesLess s.toList t.toList = false ∧ (s.toList == t.toList) = false ∧ c = 1) := by
    cases h1 : Op.bytesLess s.toList t.toList
    · right
      by_cases h2 : s.toList = t.toList
      · left; rw [h1] at hc; simp [h2] at hc; simp [h2, hc]
      · right; rw [h1] at hc; simp [h2] at hc; simp [h2, hc]
    · left; rw [h1] at hc; simpa using hc
  have hdd : (m < n ∧ d = -1) ∨ (n < m ∧ d = 1) ∨ (m = n ∧ d = 0) := by
    split at hd
    · omega
    · split at hd <;> omega
  clear hc hd
  have hfd : ∀ w : World, (Instr.field 24 (.agg #[.int .i64 ik, .int .i64 iN, .string s]) 0).run Tryd.prog w = .ok (.int .i64 ik) w := fun _ => by kernel_rfl
  rcases hcc with ⟨hb, rfl⟩ | ⟨hb, he, rfl⟩ | ⟨hb, he, rfl⟩
  all_goals rcases hdd with ⟨hmn, rfl⟩ | ⟨hmn, rfl⟩ | ⟨hmn, rfl⟩
  all_goals rcases hik with rfl | ⟨rfl, rfl⟩
  all_goals try subst hmn
  all_goals
    go_enter Tryd.func8, Tryd.ntmps8
    go_wp2_with (first
      | ((with_reducible refine (C1.out _).mono ?_); rintro e w' ⟨rfl, rfl⟩)
      | ((with_reducible refine (C2.out _).mono ?_); rintro e w' ⟨rfl, rfl⟩))
    refine (AW.out _ HG.out).mono ?_
    rintro e w1 ⟨rfl, hb1⟩
    have HB1 := Lib.hid hb1
    clear hb1
    go_wp2_with (fail)
    refine (T1.out _).mono ?_
    rintro e w2 ⟨rfl, hb2⟩
    have HB2 := Lib.hid (HB1.out.trans (hb2.mono HB1.out.size))
    clear hb2 HB1
    go_wp2_with (fail)
    refine (T2.out _).mono ?_
    rintro e w3 ⟨rfl, hb3⟩
    have HB3 := Lib.hid (HB2.out.trans (hb3.mono HB2.out.size))
    clear hb3 HB2
    go_wp2_with (fail)
    refine (P1.out _ (HG.out.next HB3.out)).mono ?_
    rintro e w4 ⟨rfl, hb4⟩
    have HB4 := Lib.hid (HB3.out.trans (hb4.mono HB3.out.size))
    clear hb4 HB3
    go_wp2_with (fail)
    refine (O1.out _).mono ?_
    rintro e w5 ⟨rfl, hb5⟩
    have HB5 := Lib.hid (HB4.out.trans (hb5.mono HB4.out.size))
    clear hb5 HB4
    go_wp2_with (fail)
    refine (O2.out _).mono ?_
    rintro e w6 ⟨rfl, hb6⟩
    have HB6 := Lib.hid (HB5.out.trans (hb6.mono HB5.out.size))
    clear hb6 HB5
    go_wp2_with (fail)
    refine (P2.out _ (HG.out.next HB6.out)).mono ?_
    rintro e w7 ⟨rfl, hb7⟩
    have HB7 := Lib.hid (HB6.out.trans (hb7.mono HB6.out.size))
    clear hb7 HB6
    go_wp2_with (fail)
    refine (X1.out _ (HG.out.next HB7.out)).mono ?_
    rintro e w8 ⟨rfl, hb8⟩
    have HB8 := Lib.hid (HB7.out.trans (hb8.mono HB7.out.size))
    clear hb8 HB7
    go_wp2_with (fail)
    refine (N1.out _).mono ?_
    rintro e w9 ⟨rfl, hb9⟩
    have HB9 := Lib.hid (HB8.out.trans (hb9.mono HB8.out.size))
    clear hb9 HB8
    go_wp2_with (fail)
    refine (O2.out _).mono ?_
    rintro e w10 ⟨rfl, hb10⟩
    have HB10 := Lib.hid (HB9.out.trans (hb10.mono HB9.out.size))
    clear hb10 HB9
    go_wp2_with (fail)
    refine (P3.out _ (HG.out.next HB10.out)).mono ?_
    rintro e w11 ⟨rfl, hb11⟩
    have HB11 := Lib.hid (HB10.out.trans (hb11.mono HB10.out.size))
    clear hb11 HB10
    go_wp2_with (fail)
    refine (N2.out _).mono ?_
    rintro e w12 ⟨rfl, hb12⟩
    have HB12 := Lib.hid (HB11.out.trans (hb12.mono HB11.out.size))
    clear hb12 HB11
    go_wp2_with (fail)
    first
      | (go_ret; exact ⟨rfl, HB12.out⟩)
      | (refine (N2.out _).mono ?_
         rintro e w13 ⟨rfl, hb13⟩
         have HB13 := Lib.hid (HB12.out.trans (hb13.mono HB12.out.size))
         clear hb13 HB12
         go_wp2_with (fail)
         refine (T2.out _).mono ?_
         rintro e w14 ⟨rfl, hb14⟩
         have HB14 := Lib.hid (HB13.out.trans (hb14.mono HB13.out.size))
         clear hb14 HB13
         go_wp2_with (fail)
         refine (P1.out _ (HG.out.next HB14.out)).mono ?_
         rintro e w15 ⟨rfl, hb15⟩
         have HB15 := Lib.hid (HB14.out.trans (hb15.mono HB14.out.size))
         clear hb15 HB14
         go_wp2_with (fail)
         go_ret
         exact ⟨rfl, HB15.out⟩)
theorem ctexts_walk (s0 t0 : ByteArray) (m n : Int) (w0 : s0.size ≤ maxLen) (w1 : t0.size ≤ maxLen) (_w2 : (Lit.int .i64 m).wf = true) (_w3 : (Lit.int .i64 n).wf = true) (w : World) (G : Gl w) :
    Calls Tryd.prog 8 #[.string s0, .string t0, .int .i64 m, .int .i64 n] w fun e w' => e = .returned (.bool true) ∧ Below w.heap.size w w' := by
  have AW := Lib.hid fun W G => cawake_any W G
  have C1 : Hid (∀ W, Calls Tryd.prog 23 #[.string s0, .int .i64 50] W fun e w' => e = .returned (.string (cutB s0 50)) ∧ W = w') := Lib.hid fun W => cut_any s0 50 W w0 (by omega)
  have C2 : Hid (∀ W, Calls Tryd.prog 23 #[.string t0, .int .i64 50] W fun e w' => e = .returned (.string (cutB t0 50)) ∧ W = w') := Lib.hid fun W => cut_any t0 50 W w1 (by omega)
  have hs := cutB_size s0 50
  have ht := cutB_size t0 50
  generalize cutB s0 50 = s at *
  generalize cutB t0 50 = t at *
  clear w0 w1
  by_cases hbad : OkN m ∧ OkN n
  · obtain ⟨hm, hn⟩ := hbad
    obtain ⟨S, hS, hSs⟩ := has_ba (textL m)
    have hlen := text_len m hm
    have hl : looksL S.data.toList = (m, true) := by rw [hS]; exact back3 m hm
    have i1 := fun W => input_any S W (by omega)
    rw [show inK S.data.toList = 3 by unfold inK; rw [hl]; rfl, show inN S.data.toList = m by unfold inN; rw [hl]; rfl] at i1
    have hik : inK s.data.toList = 3 ∨ (inK s.data.toList = 2 ∧ inN s.data.toList = 0) := by
      unfold inK inN; cases (looksL s.data.toList).2 <;> simp
    refine ctexts_in s0 t0 s t S m n _ _ _ _ w (Lib.hid G) AW hm hn C1 C2 (Lib.hid fun W => text_mk s W (by omega)) (Lib.hid fun W => text_mk t W (by omega))
      (Lib.hid fun W G => comp_any 2 0 s 2 0 t W (fun h => by cases h) (fun h => by cases h) G) (Lib.hid fun W => of_any m W) (Lib.hid fun W => of_any n W)
      (Lib.hid fun W G => comp_any 1 m ⟨#[]⟩ 1 n ⟨#[]⟩ W (fun _ => hm) (fun _ => hn) G)
      (Lib.hid fun W G => (text_any m W hm G).mono fun e w' ⟨h1, h2⟩ => ⟨by rw [h1]; exact ret_s (ba_of _ _ hS).symm, h2⟩) (Lib.hid i1)
      (Lib.hid fun W G => comp_any 3 m S 1 n ⟨#[]⟩ W (fun h => by cases h) (fun _ => hn) G) (Lib.hid fun W => input_any s W (by omega)) hik ?_ ?_
    · rw [toList_data', toList_data']
      exact less_comp _ _
    · rfl
  · have HG := Lib.hid G
    clear G
    unfold OkN at hbad
    go_enter Tryd.func8, Tryd.ntmps8
    go_wp2_with (first
      | ((with_reducible refine (C1.out _).mono ?_); rintro e w' ⟨rfl, rfl⟩)
      | ((with_reducible refine (C2.out _).mono ?_); rintro e w' ⟨rfl, rfl⟩))
    all_goals first | (exfalso; omega) | skip
    all_goals
      refine (AW.out _ HG.out).mono ?_
      rintro e w1 ⟨rfl, hb1⟩
      have HB1 := Lib.hid hb1
      clear hb1
      go_wp2_with (fail)
      go_ret
      exact ⟨rfl, HB1.out⟩
end Go.Proofs.YtajonlpohllheaaDoor
