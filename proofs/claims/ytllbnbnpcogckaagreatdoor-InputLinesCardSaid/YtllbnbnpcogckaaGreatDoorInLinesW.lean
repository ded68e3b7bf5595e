/-
  THE WALK of the law InputLines: whatever the text, it returns true and writes to nothing that was there.
-/
import Derived.Test.YtllbnbnpcogckaaGreatDoorInM
namespace Go.Proofs.YtllbnbnpcogckaaGreatDoor
open Go.RowKit

/-- A text of which a part is gone: its first record, and is a byte 10 behind it? -/
theorem lines_parts : ∀ (l : List UInt8), ∃ (a r : List UInt8) (last : Bool), (10 : UInt8) ∉ a ∧ l = (if last then a else a ++ 10 :: r) ∧ (last = true → r = [])
  | [] => ⟨[], [], true, by simp, rfl, fun _ => rfl⟩
  | b :: l => by
    obtain ⟨a, r, last, h1, h2, h3⟩ := lines_parts l
    by_cases hb : b = 10
    · exact ⟨[], l, false, by simp, by simp [hb], by simp⟩
    · refine ⟨b :: a, r, last, by simp [h1]; exact fun e => hb e.symm, ?_, h3⟩
      rw [h2]
      cases last <;> rfl
theorem at_str (s : ByteArray) (i : Int) (k : Nat) (hk : k < s.size) (hi : i = k) (W : World) : (Instr.index 9 (.string s) (.int .i64 i)).run Tryz.prog W = .ok (.int .u8 (s[k].toNat : Int)) W := by
  subst hi
  simp [Instr.index, go_sem, run_underlying Tryz.underlying9, hk]
/-- Behind so many bytes of a text: all the records ahead, a byte 10 behind each. -/
def LnI (s : List UInt8) (X : List UInt8) (p : Nat) : Prop :=
  p ≤ s.length ∧ ((X = s.take p ∧ (p = 0 ∨ s[p - 1]? = some 10)) ∨ (p = s.length ∧ X = s ++ [10] ∧ s ≠ [] ∧ s[s.length - 1]? ≠ some 10))
theorem LnI.len {s X : List UInt8} {p : Nat} (h : LnI s X p) : X.length ≤ s.length + 1 := by
  rcases h.2 with ⟨h1, _⟩ | ⟨_, h1, _⟩
  · rw [h1, List.length_take]; omega
  · rw [h1]; simp
theorem LnI.mid {s X a r : List UInt8} {p : Nat} (h : LnI s X p) (hp : p < s.length) (hd : s.drop p = a ++ 10 :: r) : LnI s (X ++ (a ++ [10])) (p + a.length + 1) := by
  have hl : s.length - p = a.length + 1 + r.length := by rw [← List.length_drop, hd]; simp; omega
  rcases h.2 with ⟨h1, _⟩ | ⟨h1, _⟩
  · refine ⟨by omega, .inl ⟨?_, .inr ?_⟩⟩
    · rw [h1, show p + a.length + 1 = p + (a.length + 1) by omega, List.take_add, hd]
      congr 1
      rw [show a ++ 10 :: r = (a ++ [10]) ++ r by simp, List.take_left' (by simp)]
    · rw [show p + a.length + 1 - 1 = p + a.length by omega, ← List.getElem?_drop, hd]
      simp
  · omega
theorem LnI.last {s X a : List UInt8} {p : Nat} (h : LnI s X p) (hp : p < s.length) (hd : s.drop p = a) (h10 : (10 : UInt8) ∉ a) : LnI s (X ++ (a ++ [10])) (p + a.length) := by
  have hl : s.length - p = a.length := by rw [← List.length_drop, hd]
  rcases h.2 with ⟨h1, _⟩ | ⟨h1, _⟩
  · refine ⟨by omega, .inr ⟨by omega, ?_, ?_, ?_⟩⟩
    · rw [h1, ← hd, ← List.append_assoc, List.take_append_drop]
    · intro e; rw [e] at hp; simp at hp
    · intro e
      have h2 : s[p + (a.length - 1)]? = some 10 := by rw [show p + (a.length - 1) = s.length - 1 by omega]; exact e
      rw [← List.getElem?_drop, hd] at h2
      exact h10 (List.mem_of_getElem? h2)
  · omega
set_option maxHeartbeats 4000000 in
set_option maxRecDepth 100000 in
theorem lines_walk (s0 : ByteArray) (w0 : s0.size ≤ maxLen) (w : World) (G : Gi w) :
    Calls Tryz.prog 3 #[.string s0] w fun e w' => e = .returned (.bool true) ∧ Below w.heap.size w w' := by
  obtain ⟨s, hs⟩ : ∃ s, cutB s0 300 = s := ⟨_, rfl⟩
  have C1 : Hid (∀ W, Calls Tryz.prog 8 #[.string s0, .int .i64 300] W fun e w' => e = .returned (.string s) ∧ W = w') := Lib.hid fun W => by
    have := cut_any s0 300 W w0 (by omega)
    rw [hs] at this; exact this
  have hsz : s.size ≤ 300 := by rw [← hs]; exact cutB_size s0 300
  have AW := Lib.hid fun W G => iawake_any W G
  have HG := Lib.hid G
  clear hs w0 G
  go_enter Tryz.func3, Tryz.ntmps3
  go_wp2_with fail
  refine (C1.out _).mono ?_
  rintro e w1 ⟨rfl, rfl⟩
  clear C1
  go_wp2_with fail
  go_loopw [3, 4, 5] (fun av pv iv wr => ∃ (k p : Nat) (X : ByteArray), k ≤ p ∧ p ≤ s.size ∧ X.size ≤ 301 ∧ av = .string X ∧ pv = .int .i64 (p : Int) ∧ iv = .int .i64 (k : Int) ∧ Hid (LnI s.data.toList X.data.toList p ∧ Below w.heap.size w wr)) (fun _ pv _ _ => s.size - (intOf pv).toNat)
  case atStart => exact ⟨0, 0, ⟨#[]⟩, Nat.le_refl _, Nat.zero_le _, by decide, rfl, rfl, rfl, Lib.hid ⟨⟨Nat.zero_le _, .inl ⟨rfl, .inl rfl⟩⟩, Below.refl _ _⟩⟩
  case round =>
    obtain ⟨k, p, X, hkp, hps, hX, rfl, rfl, rfl, HX⟩ := hrel
    have hki : (k : Int) ≤ (s.size : Int) := by omega
    by_cases hp : p < s.size
    · obtain ⟨a, r, last, h10, heq, hr⟩ := lines_parts (s.data.toList.drop p)
      have hpl : p < s.data.toList.length := by rw [ba_sz]; exact hp
      obtain ⟨A, hA⟩ : ∃ A : ByteArray, A.data.toList = a := ⟨⟨a.toArray⟩, rfl⟩
      have hAs : A.size = a.length := by rw [← ba_sz, hA]
      have hdl : (s.data.toList.drop p).length = s.size - p := by rw [List.length_drop, ba_sz]
      obtain ⟨q, hq, hq1, hq2, hAl⟩ : ∃ q : Nat, (if last then (p : Int) + A.size else (p : Int) + A.size + 1) = (q : Int) ∧ p < q ∧ q ≤ s.size ∧ A.size ≤ 300 := by
        rw [heq] at hdl
        cases last
        · rw [if_neg (by decide)] at hdl ⊢
          rw [List.length_append, List.length_cons] at hdl
          exact ⟨p + A.size + 1, by omega, by omega, by omega, by omega⟩
        · rw [if_pos rfl] at hdl ⊢
          exact ⟨p + A.size, by omega, by omega, by omega, by omega⟩
      have CN : Hid (∀ W, Gi W → Calls Tryz.prog 9 #[.string s, .int .i64 (p : Int)] W fun e w' => e = .returned (.tuple #[.string A, .int .i64 (q : Int), .bool true]) ∧ Below W.heap.size W w') := Lib.hid fun W G => by
        have := next_any s p hp (by omega) A a r last hA (by rw [extk]; exact heq) h10 W G
        rw [hq] at this; exact this
      have hXl := HX.out.1.len
      have HNX : Hid (LnI s.data.toList (X ++ (A ++ (⟨#[10]⟩ : ByteArray))).data.toList q) := Lib.hid (by
        rw [ByteArray.data_append, ByteArray.data_append, Array.toList_append, Array.toList_append, hA]
        cases last
        · rw [if_neg (by decide)] at heq hq
          have := HX.out.1.mid hpl heq
          rw [show q = p + a.length + 1 by omega]; exact this
        · rw [if_pos rfl] at heq hq
          have := HX.out.1.last hpl heq h10
          rw [show q = p + a.length by omega]; exact this)
      have hXs : (X ++ (A ++ (⟨#[10]⟩ : ByteArray))).size ≤ 301 := by
        have := HNX.out.len
        rw [ba_sz, ba_sz] at this
        omega
      have H10 : Hid (∀ j (h : j < A.size), ¬ (A[j].toNat : Int) = 10) := Lib.hid fun j h e => h10 (by
        have e2 : A[j] = 10 := by
          apply UInt8.toNat_inj.1
          have : A[j].toNat = 10 := by omega
          rw [this]; rfl
        rw [← hA, ← e2]
        exact List.getElem_mem (by rw [ba_sz]; exact h))
      have HB := Lib.hid HX.out.2
      have hpqi : ¬ (q : Int) ≤ (p : Int) := by omega
      have hsz1 : ¬ 9223372036854775807 < A.size + 1 := by omega
      have hsz2 : ¬ 9223372036854775807 < X.size + (A.size + 1) := by omega
      clear heq hr h10 hA hAs hdl hq HX hXl hpl
      go_wp2_with fail
      refine (CN.out _ (HG.out.next HB.out)).mono ?_
      rintro e w2 ⟨rfl, hb2⟩
      have HB2 := Lib.hid (HB.out.trans (hb2.mono HB.out.size))
      clear hb2 HB CN
      go_wp2_with fail
      go_loopw [9] (fun jv wx => ∃ j : Nat, j ≤ A.size ∧ jv = .int .i64 j ∧ wx = w2) (fun jv _ => A.size - (intOf jv).toNat)
      case atStart => exact ⟨0, Nat.zero_le _, by first | rfl | trivial, by first | rfl | trivial⟩
      case round =>
        obtain ⟨j, hj, rfl, rfl⟩ := hrel
        by_cases hlt : j < A.size
        · have h1 := H10.out j hlt
          go_wp2_with fail
          go_roundw
          case rel => exact ⟨j + 1, by omega, by go_num, by first | rfl | trivial⟩
          case measure => simp [intOf]; omega
        · go_wp2_with fail
          go_roundw
          case rel => exact ⟨k + 1, q, X ++ (A ++ (⟨#[10]⟩ : ByteArray)), by omega, hq2, hXs, rfl, rfl, by go_num, Lib.hid ⟨HNX.out, HB2.out⟩⟩
          case measure => simp [intOf]; omega
    · have hpe : p = s.size := by omega
      have CN := Lib.hid fun W => next_end s p hpe W
      have hI := HX.out.1
      rw [hpe] at hI
      have HB := Lib.hid HX.out.2
      have HP := Lib.hid hpe
      clear HX hp hpe
      by_cases h0 : s.size = 0
      · have hs0 : s.data.toList = [] := List.length_eq_zero_iff.1 (by rw [ba_sz, h0])
        have hx0 : X.data.toList = [] := by
          rcases hI.2 with ⟨h1, _⟩ | ⟨_, _, h1, _⟩
          · rw [h1, hs0, List.take_nil]
          · exact absurd hs0 h1
        have hxe : X.toList.isEmpty = true := by rw [toList_data', hx0]; rfl
        have H0 := Lib.hid (show (s.size : Int) = 0 by omega)
        clear hI hs0 hx0 h0
        go_wp2_with fail
        refine (CN.out _).mono ?_
        rintro e w2 ⟨rfl, hb2⟩
        have HB2 := Lib.hid (HB.out.trans (hb2.mono HB.out.size))
        have h0i := H0.out
        clear hb2 HB CN
        go_wp2_with fail
        refine (AW.out _ (HG.out.next HB2.out)).mono ?_
        rintro e w3 ⟨rfl, hb3⟩
        have HB3 := Lib.hid (HB2.out.trans (hb3.mono HB2.out.size))
        clear hb3 HB2
        go_wp2_with fail
        go_ret
        exact ⟨rfl, HB3.out⟩
      · have h0i : ¬ (s.size : Int) = 0 := by omega
        have hidx := fun W => at_str s ((s.size : Int) - 1) (s.size - 1) (by omega) (by omega) W
        have hla : s.data.toList[s.data.toList.length - 1]? = some s[s.size - 1] := by
          rw [ba_sz, List.getElem?_eq_getElem (by rw [ba_sz]; omega)]; rfl
        by_cases h10 : (s[s.size - 1].toNat : Int) = 10
        · have hXe : X = s := by
            apply WideShapes.bytes_inj
            rcases hI.2 with ⟨h1, _⟩ | ⟨_, _, _, h2⟩
            · rw [h1, List.take_of_length_le (by rw [ba_sz]; exact Nat.le_refl _)]
            · exfalso; apply h2; rw [hla]
              congr 1
              apply UInt8.toNat_inj.1
              have : s[s.size - 1].toNat = 10 := by omega
              rw [this]; rfl
          subst hXe
          generalize (X[X.size - 1]'(by omega)).toNat = cb at *
          clear hI hla h0
          go_wp2_with fail
          refine (CN.out _).mono ?_
          rintro e w2 ⟨rfl, hb2⟩
          have HB2 := Lib.hid (HB.out.trans (hb2.mono HB.out.size))
          clear hb2 HB CN
          go_wp2_with fail
          refine (AW.out _ (HG.out.next HB2.out)).mono ?_
          rintro e w3 ⟨rfl, hb3⟩
          have HB3 := Lib.hid (HB2.out.trans (hb3.mono HB2.out.size))
          clear hb3 HB2
          go_wp2_with fail
          go_ret
          exact ⟨rfl, HB3.out⟩
        · have hXe : X = s ++ (⟨#[10]⟩ : ByteArray) := by
            apply WideShapes.bytes_inj
            rw [ByteArray.data_append, Array.toList_append]
            rcases hI.2 with ⟨_, h1⟩ | ⟨_, h1, _⟩
            · exfalso
              rcases h1 with h1 | h1
              · exact h0 h1
              · rw [show s.size = s.data.toList.length from (ba_sz s).symm, hla] at h1
                apply h10
                rw [Option.some.inj h1]; rfl
            · exact h1
          subst hXe
          have hsz1 : ¬ 9223372036854775807 < s.size + 1 := by omega
          generalize (s[s.size - 1]'(by omega)).toNat = cb at *
          clear hI hla h0
          go_wp2_with fail
          refine (CN.out _).mono ?_
          rintro e w2 ⟨rfl, hb2⟩
          have HB2 := Lib.hid (HB.out.trans (hb2.mono HB.out.size))
          clear hb2 HB CN
          go_wp2_with fail
          refine (AW.out _ (HG.out.next HB2.out)).mono ?_
          rintro e w3 ⟨rfl, hb3⟩
          have HB3 := Lib.hid (HB2.out.trans (hb3.mono HB2.out.size))
          clear hb3 HB2
          go_wp2_with fail
          go_ret
          exact ⟨rfl, HB3.out⟩
end Go.Proofs.YtllbnbnpcogckaaGreatDoor
