/-
  THE WALK of scribelaw09.RegexQuoted: it returns true and writes to nothing that was there.
-/
import Derived.Test.YtgdalmdjbakbdaaRgQu
import Derived.Test.YtgdalmdjbakbdaaCutA
import Derived.Deep.RegionHeld3
import Derived.Deep.DeepCutAuto
import Derived.Deep.CutBlock
namespace Go.Proofs.Ytgdalmdjbakbdaa
open Go.RowKit

theorem rconv_one (c : UInt8) (n : Int) (hn : n = c.toNat) (a : Addr) (w : World) (h : w.cell? a = some (.int .u8 n)) : (convert 46 9 (.slice (some a) 1 1)).run Try.prog w = .ok (.string ⟨#[c]⟩) w := by
  refine run_convert_bytes_back (P := Try.prog) _ 46 9 5 _ 1 [c] Try.underlying46 Try.underlying5 Try.underlying9 ?_
  intro j hj
  obtain rfl : j = 0 := by simpa using hj
  rw [show a.add 0 = a from by simp [Addr.add], h, hn]
  rfl
theorem rtake_snoc (s : ByteArray) (k : Nat) (h : k < s.size) : s.data.toList.take (k + 1) = s.data.toList.take k ++ [s[k]] := by
  rw [List.take_succ_eq_append_getElem (by simpa using h)]; rfl
theorem quB_word {c : UInt8} (h : wordB c = true) : quB c = [c] := by unfold quB; rw [if_pos h]
theorem quB_not {c : UInt8} (h : wordB c = false) : quB c = [92, c] := by unfold quB; rw [if_neg (by rw [h]; simp)]
/-- The words of kid k. -/
theorem kid_cells {w : World} {g c n : Nat} {nds : List Nd} (h : w.ownsRow 0 28 6 (.slice (some ⟨g, 0, none⟩) n c) n (ndRow nds)) (hn : nds.length = n) (k : Nat) (hk : k < n) (x : Nd) (hx : nds[k]? = some x) :
    w.cell? ⟨g, k * 6, none⟩ = some (.int .i64 x.op) ∧ w.cell? ⟨g, k * 6 + 1, none⟩ = some (.int .u64 x.set.a) ∧ w.cell? ⟨g, k * 6 + 2, none⟩ = some (.int .u64 x.set.b) ∧ w.cell? ⟨g, k * 6 + 3, none⟩ = some (.int .u64 x.set.c) ∧ w.cell? ⟨g, k * 6 + 4, none⟩ = some (.int .u64 x.set.d) := by
  have hl : k < nds.length := by omega
  have he : nds[k] = x := by rw [List.getElem?_eq_getElem hl] at hx; exact Option.some.inj hx
  have q : ∀ j, j < 6 → w.cell? ⟨g, k * 6 + j, none⟩ = x.vals[j]? := fun j hj => by
    rw [h.cellAt (k * 6 + j) (by omega), ndRow_get _ k j hl hj, he]
  exact ⟨q 0 (by omega), q 1 (by omega), q 2 (by omega), q 3 (by omega), q 4 (by omega)⟩
/-- The kids of a row of bytes. -/
theorem ones_get {w : World} {B : Nat → Prop} : ∀ {l : List UInt8} {nds : List Nd}, TreesN w B (l.map oneT) nds → ∀ (k : Nat) (c : UInt8), l[k]? = some c → ∃ x : Nd, nds[k]? = some x ∧ x.op = 1 ∧ x.set = withW W4.zero c
  | [], nds, _, k, c, hk => by simp at hk
  | a :: l, nds, h, k, c, hk => by
    change TreesN w B (oneT a :: l.map oneT) nds at h
    unfold TreesN at h
    obtain ⟨nd, rest, rfl, h2, h3⟩ := h
    cases k with
    | zero =>
      obtain rfl : a = c := by simpa using hk
      unfold oneT TreeN at h2
      exact ⟨nd, rfl, h2.1, h2.2.1⟩
    | succ k =>
      obtain ⟨x, hx⟩ := ones_get h3 k c (by simpa using hk)
      exact ⟨x, by simpa using hx.1, hx.2⟩
set_option maxHeartbeats 8000000 in
set_option maxRecDepth 100000 in
theorem quoted_walk (s0 : ByteArray) (w0 : s0.size ≤ maxLen) (w : World) :
    Calls Try.prog 6 #[.string s0] w fun e w' => e = .returned (.bool true) ∧ Below w.heap.size w w' := by
  have C0 : Hid (∀ W, Calls Try.prog 9 #[.string s0, .int .i64 100] W fun e w' => e = .returned (.string (cutB s0 100)) ∧ W = w') := Lib.hid fun W => cut_any s0 100 W w0 (by omega)
  have hts := cutB_size s0 100
  generalize cutB s0 100 = s at *
  have AW := Lib.hid ragwake_any
  have WX := Lib.hid rwith_any
  clear w0
  go_enter Try.func6, Try.ntmps6
  go_wp2_with ((with_reducible refine (C0.out _).mono ?_); rintro e w' ⟨rfl, rfl⟩)
  clear C0
  go_loopw [3, 4] (fun tv iv wr => ∃ (k : Nat) (T : ByteArray), k ≤ s.size ∧ tv = .string T ∧ iv = .int .i64 (k : Int) ∧ T.size ≤ 2 * k ∧ Hid (T.data.toList = quL (s.data.toList.take k)) ∧ Hid (Below w.heap.size w wr)) (fun _ iv _ => s.size - (intOf iv).toNat)
  case atStart => exact ⟨0, ⟨#[]⟩, Nat.zero_le _, rfl, rfl, Nat.le_refl 0, Lib.hid (by simp [quL]), Lib.hid (Below.refl _ _)⟩
  case round =>
    obtain ⟨k, T, hk, rfl, rfl, hTs, HT, HB⟩ := hrel
    by_cases hlt : k < s.size
    · have HS1 := Lib.hid (rtake_snoc s k hlt)
      obtain ⟨c, hc⟩ : ∃ c, s[k] = c := ⟨_, rfl⟩
      rw [hc] at HS1
      have hcb := c.toNat_lt
      have hi : c.toNat ≤ 31 ∨ (32 ≤ c.toNat ∧ c.toNat ≤ 47) ∨ (48 ≤ c.toNat ∧ c.toNat ≤ 57) ∨ (58 ≤ c.toNat ∧ c.toNat ≤ 64) ∨ (65 ≤ c.toNat ∧ c.toNat ≤ 90) ∨ (91 ≤ c.toNat ∧ c.toNat ≤ 96) ∨ (97 ≤ c.toNat ∧ c.toNat ≤ 122) ∨ (123 ≤ c.toNat ∧ c.toNat ≤ 126) ∨ 127 ≤ c.toNat := by omega
      have hkb : k ≤ 100 := by omega
      rcases hi with hhi | ⟨hlo, hhi⟩ | ⟨hlo, hhi⟩ | ⟨hlo, hhi⟩ | ⟨hlo, hhi⟩ | ⟨hlo, hhi⟩ | ⟨hlo, hhi⟩ | ⟨hlo, hhi⟩ | hlo
      · have hw : wordB c = true := by
          unfold wordB digB letB
          simp [UInt8.le_iff_toNat_le]; omega
        have p48 : ¬ (48 : Int) ≤ (c.toNat : Int) := by omega
        have p57 : (c.toNat : Int) ≤ 57 := by omega
        have p97 : ¬ (97 : Int) ≤ (c.toNat : Int) := by omega
        have p122 : (c.toNat : Int) ≤ 122 := by omega
        have p65 : ¬ (65 : Int) ≤ (c.toNat : Int) := by omega
        have p90 : (c.toNat : Int) ≤ 90 := by omega
        have p32 : (c.toNat : Int) < 32 := by omega
        have p126 : ¬ 126 < (c.toNat : Int) := by omega
        have HW := Lib.hid hw
        clear hw
        have HCV := Lib.hid fun (w' : World) (a : Addr) h => rconv_one c (c.toNat : Int) rfl a w' h
        have hcv := HCV.out (wr.alloc (.cells #[.int .u8 (c.toNat : Int)] 5)) ⟨wr.heap.size, 0, none⟩ (by simp [go_sem])
        have hz1 : (⟨#[c]⟩ : ByteArray).size = 1 := rfl
        have HT2 : Hid ((T ++ ⟨#[c]⟩).data.toList = quL (s.data.toList.take (k + 1))) := Lib.hid (by rw [HS1.out, quL_snoc, quB_word HW.out, ByteArray.data_append, Array.toList_append, HT.out])
        have hTs2 : (T ++ ⟨#[c]⟩).size ≤ 2 * (k + 1) := by rw [ByteArray.size_append]; omega
        have HB2 := Lib.hid (HB.out.alloc HB.out.size (.cells #[.int .u8 (c.toNat : Int)] 5))
        clear HT HB
        go_wp2_with fail
        go_roundw
        case rel => exact ⟨k + 1, T ++ ⟨#[c]⟩, by omega, rfl, by go_num, hTs2, HT2, HB2⟩
        case measure => simp [intOf]; omega
      · have hw : wordB c = false := by
          unfold wordB digB letB
          rw [Bool.eq_false_iff]; simp [UInt8.le_iff_toNat_le]; omega
        have p48 : ¬ (48 : Int) ≤ (c.toNat : Int) := by omega
        have p57 : (c.toNat : Int) ≤ 57 := by omega
        have p97 : ¬ (97 : Int) ≤ (c.toNat : Int) := by omega
        have p122 : (c.toNat : Int) ≤ 122 := by omega
        have p65 : ¬ (65 : Int) ≤ (c.toNat : Int) := by omega
        have p90 : (c.toNat : Int) ≤ 90 := by omega
        have p32 : ¬ (c.toNat : Int) < 32 := by omega
        have p126 : ¬ 126 < (c.toNat : Int) := by omega
        have HW := Lib.hid hw
        clear hw
        have HCV := Lib.hid fun (w' : World) (a : Addr) h => rconv_one c (c.toNat : Int) rfl a w' h
        have hcv := HCV.out (wr.alloc (.cells #[.int .u8 (c.toNat : Int)] 5)) ⟨wr.heap.size, 0, none⟩ (by simp [go_sem])
        have hz1 : (⟨#[c]⟩ : ByteArray).size = 1 := rfl
        have hz2 : (⟨#[92]⟩ : ByteArray).size = 1 := rfl
        have HT2 : Hid ((T ++ ⟨#[92]⟩ ++ ⟨#[c]⟩).data.toList = quL (s.data.toList.take (k + 1))) := Lib.hid (by rw [HS1.out, quL_snoc, quB_not HW.out, ByteArray.data_append, Array.toList_append, ByteArray.data_append, Array.toList_append, HT.out]; simp)
        have hTs2 : (T ++ ⟨#[92]⟩ ++ ⟨#[c]⟩).size ≤ 2 * (k + 1) := by rw [ByteArray.size_append, ByteArray.size_append]; omega
        have hTs3 : (T ++ ⟨#[92]⟩).size ≤ 2 * (k + 1) := by rw [ByteArray.size_append]; omega
        have HB2 := Lib.hid (HB.out.alloc HB.out.size (.cells #[.int .u8 (c.toNat : Int)] 5))
        clear HT HB
        go_wp2_with fail
        go_roundw
        case rel => exact ⟨k + 1, T ++ ⟨#[92]⟩ ++ ⟨#[c]⟩, by omega, rfl, by go_num, hTs2, HT2, HB2⟩
        case measure => simp [intOf]; omega
      · have hw : wordB c = true := by
          unfold wordB digB letB
          simp [UInt8.le_iff_toNat_le]; omega
        have p48 : (48 : Int) ≤ (c.toNat : Int) := by omega
        have p57 : (c.toNat : Int) ≤ 57 := by omega
        have p97 : ¬ (97 : Int) ≤ (c.toNat : Int) := by omega
        have p122 : (c.toNat : Int) ≤ 122 := by omega
        have p65 : ¬ (65 : Int) ≤ (c.toNat : Int) := by omega
        have p90 : (c.toNat : Int) ≤ 90 := by omega
        have p32 : ¬ (c.toNat : Int) < 32 := by omega
        have p126 : ¬ 126 < (c.toNat : Int) := by omega
        have HW := Lib.hid hw
        clear hw
        have HCV := Lib.hid fun (w' : World) (a : Addr) h => rconv_one c (c.toNat : Int) rfl a w' h
        have hcv := HCV.out (wr.alloc (.cells #[.int .u8 (c.toNat : Int)] 5)) ⟨wr.heap.size, 0, none⟩ (by simp [go_sem])
        have hz1 : (⟨#[c]⟩ : ByteArray).size = 1 := rfl
        have HT2 : Hid ((T ++ ⟨#[c]⟩).data.toList = quL (s.data.toList.take (k + 1))) := Lib.hid (by rw [HS1.out, quL_snoc, quB_word HW.out, ByteArray.data_append, Array.toList_append, HT.out])
        have hTs2 : (T ++ ⟨#[c]⟩).size ≤ 2 * (k + 1) := by rw [ByteArray.size_append]; omega
        have HB2 := Lib.hid (HB.out.alloc HB.out.size (.cells #[.int .u8 (c.toNat : Int)] 5))
        clear HT HB
        go_wp2_with fail
        go_roundw
        case rel => exact ⟨k + 1, T ++ ⟨#[c]⟩, by omega, rfl, by go_num, hTs2, HT2, HB2⟩
        case measure => simp [intOf]; omega
      · have hw : wordB c = false := by
          unfold wordB digB letB
          rw [Bool.eq_false_iff]; simp [UInt8.le_iff_toNat_le]; omega
        have p48 : (48 : Int) ≤ (c.toNat : Int) := by omega
        have p57 : ¬ (c.toNat : Int) ≤ 57 := by omega
        have p97 : ¬ (97 : Int) ≤ (c.toNat : Int) := by omega
        have p122 : (c.toNat : Int) ≤ 122 := by omega
        have p65 : ¬ (65 : Int) ≤ (c.toNat : Int) := by omega
        have p90 : (c.toNat : Int) ≤ 90 := by omega
        have p32 : ¬ (c.toNat : Int) < 32 := by omega
        have p126 : ¬ 126 < (c.toNat : Int) := by omega
        have HW := Lib.hid hw
        clear hw
        have HCV := Lib.hid fun (w' : World) (a : Addr) h => rconv_one c (c.toNat : Int) rfl a w' h
        have hcv := HCV.out (wr.alloc (.cells #[.int .u8 (c.toNat : Int)] 5)) ⟨wr.heap.size, 0, none⟩ (by simp [go_sem])
        have hz1 : (⟨#[c]⟩ : ByteArray).size = 1 := rfl
        have hz2 : (⟨#[92]⟩ : ByteArray).size = 1 := rfl
        have HT2 : Hid ((T ++ ⟨#[92]⟩ ++ ⟨#[c]⟩).data.toList = quL (s.data.toList.take (k + 1))) := Lib.hid (by rw [HS1.out, quL_snoc, quB_not HW.out, ByteArray.data_append, Array.toList_append, ByteArray.data_append, Array.toList_append, HT.out]; simp)
        have hTs2 : (T ++ ⟨#[92]⟩ ++ ⟨#[c]⟩).size ≤ 2 * (k + 1) := by rw [ByteArray.size_append, ByteArray.size_append]; omega
        have hTs3 : (T ++ ⟨#[92]⟩).size ≤ 2 * (k + 1) := by rw [ByteArray.size_append]; omega
        have HB2 := Lib.hid (HB.out.alloc HB.out.size (.cells #[.int .u8 (c.toNat : Int)] 5))
        clear HT HB
        go_wp2_with fail
        go_roundw
        case rel => exact ⟨k + 1, T ++ ⟨#[92]⟩ ++ ⟨#[c]⟩, by omega, rfl, by go_num, hTs2, HT2, HB2⟩
        case measure => simp [intOf]; omega
      · have hw : wordB c = true := by
          unfold wordB digB letB
          simp [UInt8.le_iff_toNat_le]; omega
        have p48 : (48 : Int) ≤ (c.toNat : Int) := by omega
        have p57 : ¬ (c.toNat : Int) ≤ 57 := by omega
        have p97 : ¬ (97 : Int) ≤ (c.toNat : Int) := by omega
        have p122 : (c.toNat : Int) ≤ 122 := by omega
        have p65 : (65 : Int) ≤ (c.toNat : Int) := by omega
        have p90 : (c.toNat : Int) ≤ 90 := by omega
        have p32 : ¬ (c.toNat : Int) < 32 := by omega
        have p126 : ¬ 126 < (c.toNat : Int) := by omega
        have HW := Lib.hid hw
        clear hw
        have HCV := Lib.hid fun (w' : World) (a : Addr) h => rconv_one c (c.toNat : Int) rfl a w' h
        have hcv := HCV.out (wr.alloc (.cells #[.int .u8 (c.toNat : Int)] 5)) ⟨wr.heap.size, 0, none⟩ (by simp [go_sem])
        have hz1 : (⟨#[c]⟩ : ByteArray).size = 1 := rfl
        have HT2 : Hid ((T ++ ⟨#[c]⟩).data.toList = quL (s.data.toList.take (k + 1))) := Lib.hid (by rw [HS1.out, quL_snoc, quB_word HW.out, ByteArray.data_append, Array.toList_append, HT.out])
        have hTs2 : (T ++ ⟨#[c]⟩).size ≤ 2 * (k + 1) := by rw [ByteArray.size_append]; omega
        have HB2 := Lib.hid (HB.out.alloc HB.out.size (.cells #[.int .u8 (c.toNat : Int)] 5))
        clear HT HB
        go_wp2_with fail
        go_roundw
        case rel => exact ⟨k + 1, T ++ ⟨#[c]⟩, by omega, rfl, by go_num, hTs2, HT2, HB2⟩
        case measure => simp [intOf]; omega
      · have hw : wordB c = false := by
          unfold wordB digB letB
          rw [Bool.eq_false_iff]; simp [UInt8.le_iff_toNat_le]; omega
        have p48 : (48 : Int) ≤ (c.toNat : Int) := by omega
        have p57 : ¬ (c.toNat : Int) ≤ 57 := by omega
        have p97 : ¬ (97 : Int) ≤ (c.toNat : Int) := by omega
        have p122 : (c.toNat : Int) ≤ 122 := by omega
        have p65 : (65 : Int) ≤ (c.toNat : Int) := by omega
        have p90 : ¬ (c.toNat : Int) ≤ 90 := by omega
        have p32 : ¬ (c.toNat : Int) < 32 := by omega
        have p126 : ¬ 126 < (c.toNat : Int) := by omega
        have HW := Lib.hid hw
        clear hw
        have HCV := Lib.hid fun (w' : World) (a : Addr) h => rconv_one c (c.toNat : Int) rfl a w' h
        have hcv := HCV.out (wr.alloc (.cells #[.int .u8 (c.toNat : Int)] 5)) ⟨wr.heap.size, 0, none⟩ (by simp [go_sem])
        have hz1 : (⟨#[c]⟩ : ByteArray).size = 1 := rfl
        have hz2 : (⟨#[92]⟩ : ByteArray).size = 1 := rfl
        have HT2 : Hid ((T ++ ⟨#[92]⟩ ++ ⟨#[c]⟩).data.toList = quL (s.data.toList.take (k + 1))) := Lib.hid (by rw [HS1.out, quL_snoc, quB_not HW.out, ByteArray.data_append, Array.toList_append, ByteArray.data_append, Array.toList_append, HT.out]; simp)
        have hTs2 : (T ++ ⟨#[92]⟩ ++ ⟨#[c]⟩).size ≤ 2 * (k + 1) := by rw [ByteArray.size_append, ByteArray.size_append]; omega
        have hTs3 : (T ++ ⟨#[92]⟩).size ≤ 2 * (k + 1) := by rw [ByteArray.size_append]; omega
        have HB2 := Lib.hid (HB.out.alloc HB.out.size (.cells #[.int .u8 (c.toNat : Int)] 5))
        clear HT HB
        go_wp2_with fail
        go_roundw
        case rel => exact ⟨k + 1, T ++ ⟨#[92]⟩ ++ ⟨#[c]⟩, by omega, rfl, by go_num, hTs2, HT2, HB2⟩
        case measure => simp [intOf]; omega
      · have hw : wordB c = true := by
          unfold wordB digB letB
          simp [UInt8.le_iff_toNat_le]; omega
        have p48 : (48 : Int) ≤ (c.toNat : Int) := by omega
        have p57 : ¬ (c.toNat : Int) ≤ 57 := by omega
        have p97 : (97 : Int) ≤ (c.toNat : Int) := by omega
        have p122 : (c.toNat : Int) ≤ 122 := by omega
        have p65 : (65 : Int) ≤ (c.toNat : Int) := by omega
        have p90 : ¬ (c.toNat : Int) ≤ 90 := by omega
        have p32 : ¬ (c.toNat : Int) < 32 := by omega
        have p126 : ¬ 126 < (c.toNat : Int) := by omega
        have HW := Lib.hid hw
        clear hw
        have HCV := Lib.hid fun (w' : World) (a : Addr) h => rconv_one c (c.toNat : Int) rfl a w' h
        have hcv := HCV.out (wr.alloc (.cells #[.int .u8 (c.toNat : Int)] 5)) ⟨wr.heap.size, 0, none⟩ (by simp [go_sem])
        have hz1 : (⟨#[c]⟩ : ByteArray).size = 1 := rfl
        have HT2 : Hid ((T ++ ⟨#[c]⟩).data.toList = quL (s.data.toList.take (k + 1))) := Lib.hid (by rw [HS1.out, quL_snoc, quB_word HW.out, ByteArray.data_append, Array.toList_append, HT.out])
        have hTs2 : (T ++ ⟨#[c]⟩).size ≤ 2 * (k + 1) := by rw [ByteArray.size_append]; omega
        have HB2 := Lib.hid (HB.out.alloc HB.out.size (.cells #[.int .u8 (c.toNat : Int)] 5))
        clear HT HB
        go_wp2_with fail
        go_roundw
        case rel => exact ⟨k + 1, T ++ ⟨#[c]⟩, by omega, rfl, by go_num, hTs2, HT2, HB2⟩
        case measure => simp [intOf]; omega
      · have hw : wordB c = false := by
          unfold wordB digB letB
          rw [Bool.eq_false_iff]; simp [UInt8.le_iff_toNat_le]; omega
        have p48 : (48 : Int) ≤ (c.toNat : Int) := by omega
        have p57 : ¬ (c.toNat : Int) ≤ 57 := by omega
        have p97 : (97 : Int) ≤ (c.toNat : Int) := by omega
        have p122 : ¬ (c.toNat : Int) ≤ 122 := by omega
        have p65 : (65 : Int) ≤ (c.toNat : Int) := by omega
        have p90 : ¬ (c.toNat : Int) ≤ 90 := by omega
        have p32 : ¬ (c.toNat : Int) < 32 := by omega
        have p126 : ¬ 126 < (c.toNat : Int) := by omega
        have HW := Lib.hid hw
        clear hw
        have HCV := Lib.hid fun (w' : World) (a : Addr) h => rconv_one c (c.toNat : Int) rfl a w' h
        have hcv := HCV.out (wr.alloc (.cells #[.int .u8 (c.toNat : Int)] 5)) ⟨wr.heap.size, 0, none⟩ (by simp [go_sem])
        have hz1 : (⟨#[c]⟩ : ByteArray).size = 1 := rfl
        have hz2 : (⟨#[92]⟩ : ByteArray).size = 1 := rfl
        have HT2 : Hid ((T ++ ⟨#[92]⟩ ++ ⟨#[c]⟩).data.toList = quL (s.data.toList.take (k + 1))) := Lib.hid (by rw [HS1.out, quL_snoc, quB_not HW.out, ByteArray.data_append, Array.toList_append, ByteArray.data_append, Array.toList_append, HT.out]; simp)
        have hTs2 : (T ++ ⟨#[92]⟩ ++ ⟨#[c]⟩).size ≤ 2 * (k + 1) := by rw [ByteArray.size_append, ByteArray.size_append]; omega
        have hTs3 : (T ++ ⟨#[92]⟩).size ≤ 2 * (k + 1) := by rw [ByteArray.size_append]; omega
        have HB2 := Lib.hid (HB.out.alloc HB.out.size (.cells #[.int .u8 (c.toNat : Int)] 5))
        clear HT HB
        go_wp2_with fail
        go_roundw
        case rel => exact ⟨k + 1, T ++ ⟨#[92]⟩ ++ ⟨#[c]⟩, by omega, rfl, by go_num, hTs2, HT2, HB2⟩
        case measure => simp [intOf]; omega
      · have hw : wordB c = true := by
          unfold wordB digB letB
          simp [UInt8.le_iff_toNat_le]; omega
        have p48 : (48 : Int) ≤ (c.toNat : Int) := by omega
        have p57 : ¬ (c.toNat : Int) ≤ 57 := by omega
        have p97 : (97 : Int) ≤ (c.toNat : Int) := by omega
        have p122 : ¬ (c.toNat : Int) ≤ 122 := by omega
        have p65 : (65 : Int) ≤ (c.toNat : Int) := by omega
        have p90 : ¬ (c.toNat : Int) ≤ 90 := by omega
        have p32 : ¬ (c.toNat : Int) < 32 := by omega
        have p126 : 126 < (c.toNat : Int) := by omega
        have HW := Lib.hid hw
        clear hw
        have HCV := Lib.hid fun (w' : World) (a : Addr) h => rconv_one c (c.toNat : Int) rfl a w' h
        have hcv := HCV.out (wr.alloc (.cells #[.int .u8 (c.toNat : Int)] 5)) ⟨wr.heap.size, 0, none⟩ (by simp [go_sem])
        have hz1 : (⟨#[c]⟩ : ByteArray).size = 1 := rfl
        have HT2 : Hid ((T ++ ⟨#[c]⟩).data.toList = quL (s.data.toList.take (k + 1))) := Lib.hid (by rw [HS1.out, quL_snoc, quB_word HW.out, ByteArray.data_append, Array.toList_append, HT.out])
        have hTs2 : (T ++ ⟨#[c]⟩).size ≤ 2 * (k + 1) := by rw [ByteArray.size_append]; omega
        have HB2 := Lib.hid (HB.out.alloc HB.out.size (.cells #[.int .u8 (c.toNat : Int)] 5))
        clear HT HB
        go_wp2_with fail
        go_roundw
        case rel => exact ⟨k + 1, T ++ ⟨#[c]⟩, by omega, rfl, by go_num, hTs2, HT2, HB2⟩
        case measure => simp [intOf]; omega
    · have HTE : Hid (T.data.toList = quL s.data.toList) := Lib.hid (by rw [HT.out, List.take_of_length_le (by simp; omega)])
      have HP := Lib.hid fun W => rparse_ok T (quT s.data.toList) [] (by rw [HTE.out]; exact top_qu _) (by omega) W
      clear HT
      go_wp2_with fail
      refine (HP.out _).mono ?_
      rintro e w1 ⟨nd, rfl, ht, hb1⟩
      have HT1 := Lib.hid ht
      have HB1 := Lib.hid (HB.out.trans (hb1.mono HB.out.size))
      have HN1 := Lib.hid (show BlkN (w1.alloc (.cells #[.int .i64 nd.op, .int .u64 nd.set.a, .int .u64 nd.set.b, .int .u64 nd.set.c, .int .u64 nd.set.d, .slice nd.kp nd.kn nd.kc] 28)) w1.heap.size nd from heap_alloc_new w1 _)
      have HLIT := Lib.hid (World.ownsRow_lit (base := 0) (e := 28) (size := 6) (w1.alloc (.cells #[.int .i64 nd.op, .int .u64 nd.set.a, .int .u64 nd.set.b, .int .u64 nd.set.c, .int .u64 nd.set.d, .slice nd.kp nd.kn nd.kc] 28)) #[.int .i64 nd.op, .int .u64 nd.set.a, .int .u64 nd.set.b, .int .u64 nd.set.c, .int .u64 nd.set.d, .slice nd.kp nd.kn nd.kc] 1 (Nat.zero_le _) (by decide) rfl)
      have hsz1 : (w1.alloc (.cells #[.int .i64 nd.op, .int .u64 nd.set.a, .int .u64 nd.set.b, .int .u64 nd.set.c, .int .u64 nd.set.d, .slice nd.kp nd.kn nd.kc] 28)).heap.size = w1.heap.size + 1 := by simp
      have HB2 := Lib.hid ((HB1.out.alloc HB1.out.size (.cells #[.int .i64 nd.op, .int .u64 nd.set.a, .int .u64 nd.set.b, .int .u64 nd.set.c, .int .u64 nd.set.d, .slice nd.kp nd.kn nd.kc] 28)).alloc (by rw [hsz1]; exact Nat.le_succ_of_le HB1.out.size) (.cells #[.int .i64 nd.op, .int .u64 nd.set.a, .int .u64 nd.set.b, .int .u64 nd.set.c, .int .u64 nd.set.d, .slice nd.kp nd.kn nd.kc] 28))
      have HK2 := Lib.hid fun (k : Nat) (hk : k < w1.heap.size) => (Below.heap_alloc (w1.alloc (.cells #[.int .i64 nd.op, .int .u64 nd.set.a, .int .u64 nd.set.b, .int .u64 nd.set.c, .int .u64 nd.set.d, .slice nd.kp nd.kn nd.kc] 28)) (.cells #[.int .i64 nd.op, .int .u64 nd.set.a, .int .u64 nd.set.b, .int .u64 nd.set.c, .int .u64 nd.set.d, .slice nd.kp nd.kn nd.kc] 28) k (by rw [hsz1]; omega)).trans (Below.heap_alloc w1 (.cells #[.int .i64 nd.op, .int .u64 nd.set.a, .int .u64 nd.set.b, .int .u64 nd.set.c, .int .u64 nd.set.d, .slice nd.kp nd.kn nd.kc] 28) k hk)
      rw [hsz1] at HLIT
      have HN2 := Lib.hid (HN1.out.alloc (.cells #[.int .i64 nd.op, .int .u64 nd.set.a, .int .u64 nd.set.b, .int .u64 nd.set.c, .int .u64 nd.set.d, .slice nd.kp nd.kn nd.kc] 28))
      clear ht hb1 HP HB HB1 HN1 hsz1
      unfold Nd.val
      by_cases hs0 : s.size = 0
      · have hl0 : s.data.toList = [] := List.eq_nil_of_length_eq_zero (by simpa using hs0)
        have hop : nd.op = 0 := by
          have h := HT1.out
          rw [hl0] at h
          unfold quT at h
          change TreeN w1 _ (.mk 0 W4.zero []) nd at h
          unfold TreeN at h
          exact h.1
        have hsi : (s.size : Int) = 0 := by omega
        have hsb : ((s.size : Int) == 0) = true := by rw [hsi]; rfl
        obtain ⟨op, st, kp, kn, kc⟩ := nd
        change op = 0 at hop
        subst hop
        clear hl0 hsi hs0 HT1 HLIT HK2
        go_upto_region 18 with fail
        clear hsb
        generalize hww : (w1.alloc (.cells #[.int .i64 0, .int .u64 st.a, .int .u64 st.b, .int .u64 st.c, .int .u64 st.d, .slice kp kn kc] 28)).alloc (.cells #[.int .i64 0, .int .u64 st.a, .int .u64 st.b, .int .u64 st.c, .int .u64 st.d, .slice kp kn kc] 28) = w2 at *
        clear hww
        generalize w1.heap.size = g1 at *
        go_wp2_with fail
        refine (AW.out _).mono ?_
        rintro e w5 ⟨rfl, hb5⟩
        obtain ⟨d0, d1, d2, d3, d4, d5, _, _, _, _, _, _⟩ := (HN2.out.below hb5).cells
        have HB5 := Lib.hid (HB2.out.trans (hb5.mono HB2.out.size))
        clear hb5
        go_wp2_with fail
        go_ret
        exact ⟨rfl, HB5.out⟩
      · obtain ⟨w2, hw2⟩ : ∃ w2, (w1.alloc (.cells #[.int .i64 nd.op, .int .u64 nd.set.a, .int .u64 nd.set.b, .int .u64 nd.set.c, .int .u64 nd.set.d, .slice nd.kp nd.kn nd.kc] 28)).alloc (.cells #[.int .i64 nd.op, .int .u64 nd.set.a, .int .u64 nd.set.b, .int .u64 nd.set.c, .int .u64 nd.set.d, .slice nd.kp nd.kn nd.kc] 28) = w2 := ⟨_, rfl⟩
        rw [hw2] at HLIT HB2 HK2 HN2
        have HSP : Hid (0 < s.size) := Lib.hid (by omega)
        have HW2 := Lib.hid hw2
        clear hw2
        have HCUT : Hid (if nd.op = 2 then (nd.kn = s.size ∧ ∃ g, nd.kp = some ⟨g, 0, none⟩ ∧ ∃ nds, w2.ownsRow 0 28 6 (.slice (some ⟨g, 0, none⟩) s.size nd.kc) s.size (ndRow nds) ∧ nds.length = s.size ∧ TreesN w2 (fun _ => True) (s.data.toList.map oneT) nds) else
            (s.size = 1 ∧ w2.ownsRow 0 28 6 (.slice (some ⟨w1.heap.size + 1, 0, none⟩) 1 1) 1 (ndRow [nd]) ∧ TreesN w2 (fun _ => True) (s.data.toList.map oneT) [nd])) := Lib.hid (by
          have hsl : s.data.toList.length = s.size := by simp
          have hT := HT1.out
          have hkp : ∀ k, w1.heap.size ≤ k ∨ True → k < w1.heap.size → w2.heap[k]? = w1.heap[k]? := fun k _ hk => HK2.out k hk
          rcases hl : s.data.toList with _ | ⟨c, _ | ⟨c2, l⟩⟩
          · rw [hl] at hsl; exact absurd hsl.symm hs0
          · rw [hl] at hsl hT
            change TreeN w1 _ (oneT c) nd at hT
            have hop : nd.op = 1 := by
              have h := hT
              unfold oneT TreeN at h
              exact h.1
            rw [if_neg (by rw [hop]; decide)]
            refine ⟨hsl.symm, HLIT.out, ?_⟩
            show TreesN w2 _ [oneT c] [nd]
            unfold TreesN
            exact ⟨nd, [], rfl, hT.kept (fun k hk hl => hkp k (.inr trivial) hl) (fun _ _ _ => trivial), by unfold TreesN; rfl⟩
          · rw [hl] at hsl hT
            change TreeN w1 _ (.mk 2 W4.zero ((c :: c2 :: l).map oneT)) nd at hT
            unfold TreeN at hT
            obtain ⟨h1, h2, nds, h3, h4, h5⟩ := hT
            rw [if_pos (show nd.op = 2 from h1)]
            have hn : ((c :: c2 :: l).map oneT).length = s.size := by rw [List.length_map]; exact hsl
            rw [hn] at h3
            obtain ⟨n', hn'⟩ : ∃ n', s.size = n' + 1 := ⟨s.size - 1, by omega⟩
            have h3' := h3
            rw [hn'] at h3'
            obtain ⟨g, c', hv, hc'⟩ := rg_own_succ h3'
            have hv2 : nd.kp = some ⟨g, 0, none⟩ ∧ nd.kn = n' + 1 ∧ nd.kc = c' := by
              have : Value.slice nd.kp nd.kn nd.kc = _ := hv
              simpa using this
            refine ⟨by rw [hn']; exact hv2.2.1, g, hv2.1, nds, ?_, by rw [h5.len]; exact hn, h5.kept (fun k _ hl => hkp k (.inr trivial) hl) (fun _ _ _ => trivial)⟩
            have h6 : nd.kids = .slice (some ⟨g, 0, none⟩) s.size nd.kc := by rw [hv, hn', hv2.2.2]
            rw [h6] at h3
            exact rg_own_kept h3 (fun k hk => hkp k (.inr trivial) (rg_own_base h3 k hk).2))
        have hg1 : w1.heap.size < w2.heap.size := HN2.out.lt
        clear HT1 HLIT HK2
        go_upto_if 74 with fail
        rw [HW2.out]
        generalize w1.heap.size = g1 at *
        go_cut [10] (fun v10 wx => ∃ (g cc : Nat) (nds : List Nd), v10 = .slice (some ⟨g, 0, none⟩) s.size cc ∧ Hid (wx.ownsRow 0 28 6 (.slice (some ⟨g, 0, none⟩) s.size cc) s.size (ndRow nds)) ∧ Hid (nds.length = s.size) ∧ Hid (TreesN wx (fun _ => True) (s.data.toList.map oneT) nds) ∧ Hid (Below w.heap.size w wx))
        case first =>
          obtain ⟨d0, d1, d2, d3, d4, d5, _, _, _, _, _, _⟩ := HN2.out.cells
          by_cases hop : nd.op = 2
          · have hcut := HCUT.out
            rw [if_pos hop] at hcut
            obtain ⟨h1, g, h2, nds, h3, h4, h5⟩ := hcut
            have HC := Lib.hid (And.intro h3 (And.intro h4 h5))
            obtain ⟨op, st, kp, kn, kc⟩ := nd
            change op = 2 at hop
            change kn = s.size at h1
            change kp = _ at h2
            subst hop
            subst h1
            subst h2
            clear h3 h4 h5 HCUT
            go_wp2_with fail
            go_meet
            exact ⟨g, _, nds, rfl, Lib.hid HC.out.1, Lib.hid HC.out.2.1, Lib.hid HC.out.2.2, HB2⟩
          · have hcut := HCUT.out
            rw [if_neg hop] at hcut
            obtain ⟨h1, h2, h3⟩ := hcut
            have HC := Lib.hid (And.intro h1 (And.intro h2 h3))
            have hopb : (nd.op == 2) = false := by simpa using hop
            clear h1 h2 h3 HCUT
            go_wp2_with fail
            go_meet
            exact ⟨g1 + 1, 1, [nd], by rw [HC.out.1], Lib.hid (by rw [HC.out.1]; exact HC.out.2.1), Lib.hid (by rw [HC.out.1]; rfl), Lib.hid HC.out.2.2, HB2⟩
        case rest =>
          obtain ⟨g, cc, nds, rfl, HO, HL, HT, HB⟩ := hcut
          clear HCUT HW2 HN2 HB2 hg1
          have hsi2 := HSP.out
          have hsi : ((s.size : Int) == 0) = false := by rw [Bool.eq_false_iff]; intro h; have := eq_of_beq h; omega
          go_wp2_with fail
          go_loopw [93] (fun iv wr => ∃ k : Nat, k ≤ s.size ∧ iv = .int .i64 (k : Int) ∧ Hid (wr.ownsRow 0 28 6 (.slice (some ⟨g, 0, none⟩) s.size cc) s.size (ndRow nds)) ∧ Hid (Below w.heap.size w wr)) (fun iv _ => s.size - (intOf iv).toNat)
          case atStart => exact ⟨0, Nat.zero_le _, rfl, HO, HB⟩
          case round =>
            have HT2 := Lib.hid fun k c h => ones_get HT.out k c h
            clear HO HB HT
            obtain ⟨k, hk, rfl, HO, HB⟩ := hrel
            by_cases hlt : k < s.size
            · obtain ⟨x, hx, hxo, hxs⟩ := HT2.out k s[k] (rg_at s k hlt)
              obtain ⟨op, st, kp, kn, kc⟩ := x
              change op = 1 at hxo
              subst hxo
              change st = withW W4.zero s[k] at hxs
              have WX2 := Lib.hid fun W => by have := WX.out W4.zero s[k] W; rw [← hxs] at this; exact this
              have HX := Lib.hid hx
              have EQS := run_eq_set st.a st.b st.c st.d
              have hki : (k : Int) < (s.size : Int) := by omega
              have hki0 : 0 ≤ (k : Int) := by omega
              have hkb : (k : Int) ≤ 100 := by omega
              clear hx hxs HT2
              go_wp2_with fail
              refine wp_region_held_drew (S := fun w' => w'.ownsRow 0 28 6 (.slice (some ⟨g, 0, none⟩) s.size cc) s.size (ndRow nds) ∧ Below w.heap.size w w') (by kernel_rfl) (⟨World.ownsRow.drew HO.out, HB.out.drew⟩) (fun hHeld => ?_)
              refine wpAnyH_take (i := 0) (oi := _) (v := ?_) rfl (by kernel_rfl) (by kernel_rfl) (by kernel_rfl) (fun _ _ _ h => h) (Or.inl ⟨by rfl, ?_⟩) (by assumption) ?_
              rotate_left
              · (intro w hSw; (obtain ⟨q0, q1, q2, q3, q4⟩ := kid_cells hSw.1 HL.out k hlt _ HX.out); go_simp; try with_reducible rfl)
              try simp only [List.getElem_toArray, List.getElem_cons_zero, Act.put, List.setIfInBounds_toArray, List.set_cons_zero, List.set_cons_succ]
              refine wpAnyH_take (i := 1) (oi := _) (v := ?_) rfl (by kernel_rfl) (by kernel_rfl) (by kernel_rfl) (fun _ _ _ h => h) (Or.inl ⟨by rfl, ?_⟩) (by assumption) ?_
              rotate_left
              · (intro w hSw; (obtain ⟨q0, q1, q2, q3, q4⟩ := kid_cells hSw.1 HL.out k hlt _ HX.out); go_simp; try with_reducible rfl)
              try simp only [List.getElem_toArray, List.getElem_cons_zero, List.getElem_cons_succ, Act.put, List.setIfInBounds_toArray, List.set_cons_zero, List.set_cons_succ]
              refine wpAnyH_take (i := 2) (oi := _) (v := ?_) rfl (by kernel_rfl) (by kernel_rfl) (by kernel_rfl) (fun _ _ _ h => h) (Or.inl ⟨by rfl, ?_⟩) (by assumption) ?_
              rotate_left
              · (intro w hSw; (obtain ⟨q0, q1, q2, q3, q4⟩ := kid_cells hSw.1 HL.out k hlt _ HX.out); go_simp; try with_reducible rfl)
              try simp only [List.getElem_toArray, List.getElem_cons_zero, List.getElem_cons_succ, Act.put, List.setIfInBounds_toArray, List.set_cons_zero, List.set_cons_succ]
              refine wpAnyH_take (i := 3) (oi := _) (v := ?_) rfl (by kernel_rfl) (by kernel_rfl) (by kernel_rfl) (fun _ _ _ h => h) (Or.inl ⟨by rfl, ?_⟩) (by assumption) ?_
              rotate_left
              · (intro w hSw; (obtain ⟨q0, q1, q2, q3, q4⟩ := kid_cells hSw.1 HL.out k hlt _ HX.out); go_simp; try with_reducible rfl)
              try simp only [List.getElem_toArray, List.getElem_cons_zero, List.getElem_cons_succ, Act.put, List.setIfInBounds_toArray, List.set_cons_zero, List.set_cons_succ]
              refine wpAnyH_take (i := 4) (oi := _) (v := ?_) rfl (by kernel_rfl) (by kernel_rfl) (by kernel_rfl) (fun _ _ _ h => h) (Or.inl ⟨by rfl, ?_⟩) (by assumption) ?_
              rotate_left
              · (intro w hSw; (obtain ⟨q0, q1, q2, q3, q4⟩ := kid_cells hSw.1 HL.out k hlt _ HX.out); go_simp; try with_reducible rfl)
              try simp only [List.getElem_toArray, List.getElem_cons_zero, List.getElem_cons_succ, Act.put, List.setIfInBounds_toArray, List.set_cons_zero, List.set_cons_succ]
              refine wpAnyH_take (i := 5) (oi := _) (v := ?_) rfl (by kernel_rfl) (by kernel_rfl) (by kernel_rfl) (fun _ _ _ h => h) (Or.inl ⟨by rfl, ?_⟩) (by assumption) ?_
              rotate_left
              · (intro w hSw; (obtain ⟨q0, q1, q2, q3, q4⟩ := kid_cells hSw.1 HL.out k hlt _ HX.out); go_simp; try with_reducible rfl)
              try simp only [List.getElem_toArray, List.getElem_cons_zero, List.getElem_cons_succ, Act.put, List.setIfInBounds_toArray, List.set_cons_zero, List.set_cons_succ]
              refine wpAnyH_take (i := 6) (oi := _) (v := ?_) rfl (by kernel_rfl) (by kernel_rfl) (by kernel_rfl) (fun _ _ _ h => h) (Or.inl ⟨by rfl, ?_⟩) (by assumption) ?_
              rotate_left
              · (intro w hSw; (obtain ⟨q0, q1, q2, q3, q4⟩ := kid_cells hSw.1 HL.out k hlt _ HX.out); go_simp; try with_reducible rfl)
              try simp only [List.getElem_toArray, List.getElem_cons_zero, List.getElem_cons_succ, Act.put, List.setIfInBounds_toArray, List.set_cons_zero, List.set_cons_succ]
              refine wpAnyH_take (i := 7) (oi := _) (v := ?_) rfl (by kernel_rfl) (by kernel_rfl) (by kernel_rfl) (fun _ _ _ h => h) (Or.inl ⟨by rfl, ?_⟩) (by assumption) ?_
              rotate_left
              · (intro w hSw; (obtain ⟨q0, q1, q2, q3, q4⟩ := kid_cells hSw.1 HL.out k hlt _ HX.out); go_simp; try with_reducible rfl)
              try simp only [List.getElem_toArray, List.getElem_cons_zero, List.getElem_cons_succ, Act.put, List.setIfInBounds_toArray, List.set_cons_zero, List.set_cons_succ]
              refine wpAnyH_take (i := 8) (oi := _) (v := ?_) rfl (by kernel_rfl) (by kernel_rfl) (by kernel_rfl) (fun _ _ _ h => h) (Or.inl ⟨by rfl, ?_⟩) (by assumption) ?_
              rotate_left
              · (intro w hSw; (obtain ⟨q0, q1, q2, q3, q4⟩ := kid_cells hSw.1 HL.out k hlt _ HX.out); go_simp; try with_reducible rfl)
              try simp only [List.getElem_toArray, List.getElem_cons_zero, List.getElem_cons_succ, Act.put, List.setIfInBounds_toArray, List.set_cons_zero, List.set_cons_succ]
              refine wpAnyH_take (i := 9) (oi := _) (v := ?_) rfl (by kernel_rfl) (by kernel_rfl) (by kernel_rfl) (fun _ _ _ h => h) (Or.inl ⟨by rfl, ?_⟩) (by assumption) ?_
              rotate_left
              · (intro w hSw; (obtain ⟨q0, q1, q2, q3, q4⟩ := kid_cells hSw.1 HL.out k hlt _ HX.out); go_simp; try with_reducible rfl)
              try simp only [List.getElem_toArray, List.getElem_cons_zero, List.getElem_cons_succ, Act.put, List.setIfInBounds_toArray, List.set_cons_zero, List.set_cons_succ]
              refine wpAnyH_take (i := 10) (oi := _) (v := ?_) rfl (by kernel_rfl) (by kernel_rfl) (by kernel_rfl) (fun _ _ _ h => h) (Or.inl ⟨by rfl, ?_⟩) (by assumption) ?_
              rotate_left
              · (intro w hSw; (obtain ⟨q0, q1, q2, q3, q4⟩ := kid_cells hSw.1 HL.out k hlt _ HX.out); go_simp; try with_reducible rfl)
              try simp only [List.getElem_toArray, List.getElem_cons_zero, List.getElem_cons_succ, Act.put, List.setIfInBounds_toArray, List.set_cons_zero, List.set_cons_succ]
              refine wpAnyH_take (i := 11) (oi := _) (v := ?_) rfl (by kernel_rfl) (by kernel_rfl) (by kernel_rfl) (fun _ _ _ h => h) (Or.inl ⟨by rfl, ?_⟩) (by assumption) ?_
              rotate_left
              · (intro w hSw; (obtain ⟨q0, q1, q2, q3, q4⟩ := kid_cells hSw.1 HL.out k hlt _ HX.out); go_simp; try with_reducible rfl)
              try simp only [List.getElem_toArray, List.getElem_cons_zero, List.getElem_cons_succ, Act.put, List.setIfInBounds_toArray, List.set_cons_zero, List.set_cons_succ]
              refine wpAnyH_take (i := 12) (oi := _) (v := ?_) rfl (by kernel_rfl) (by kernel_rfl) (by kernel_rfl) (fun _ _ _ h => h) (Or.inl ⟨by rfl, ?_⟩) (by assumption) ?_
              rotate_left
              · (intro w hSw; (obtain ⟨q0, q1, q2, q3, q4⟩ := kid_cells hSw.1 HL.out k hlt _ HX.out); go_simp; try with_reducible rfl)
              try simp only [List.getElem_toArray, List.getElem_cons_zero, List.getElem_cons_succ, Act.put, List.setIfInBounds_toArray, List.set_cons_zero, List.set_cons_succ]
              refine wpAnyH_take (i := 13) (oi := _) (v := ?_) rfl (by kernel_rfl) (by kernel_rfl) (by kernel_rfl) (fun _ _ _ h => h) (Or.inl ⟨by rfl, ?_⟩) (by assumption) ?_
              rotate_left
              · (intro w hSw; (obtain ⟨q0, q1, q2, q3, q4⟩ := kid_cells hSw.1 HL.out k hlt _ HX.out); go_simp; try with_reducible rfl)
              try simp only [List.getElem_toArray, List.getElem_cons_zero, List.getElem_cons_succ, Act.put, List.setIfInBounds_toArray, List.set_cons_zero, List.set_cons_succ]
              refine wpAnyH_take (i := 14) (oi := _) (v := ?_) rfl (by kernel_rfl) (by kernel_rfl) (by kernel_rfl) (fun _ _ _ h => h) (Or.inl ⟨by rfl, ?_⟩) (by assumption) ?_
              rotate_left
              · (intro w hSw; (obtain ⟨q0, q1, q2, q3, q4⟩ := kid_cells hSw.1 HL.out k hlt _ HX.out); go_simp; try with_reducible rfl)
              try simp only [List.getElem_toArray, List.getElem_cons_zero, List.getElem_cons_succ, Act.put, List.setIfInBounds_toArray, List.set_cons_zero, List.set_cons_succ]
              refine wpAnyH_take (i := 15) (oi := _) (v := ?_) rfl (by kernel_rfl) (by kernel_rfl) (by kernel_rfl) (fun _ _ _ h => h) (Or.inl ⟨by rfl, ?_⟩) (by assumption) ?_
              rotate_left
              · (intro w hSw; (obtain ⟨q0, q1, q2, q3, q4⟩ := kid_cells hSw.1 HL.out k hlt _ HX.out); go_simp; try with_reducible rfl)
              try simp only [List.getElem_toArray, List.getElem_cons_zero, List.getElem_cons_succ, Act.put, List.setIfInBounds_toArray, List.set_cons_zero, List.set_cons_succ]
              refine wpAnyH_ready (rs := [16]) (by kernel_rfl) (by simp) ?_
              refine AllReadyH.cons (o := _) rfl (fun K hK => ?_) AllReadyH.nil
              go_simp
              refine (WX2.out _).mono ?_
              rintro e w8 ⟨rfl, hb8⟩
              unfold W4.val
              refine hK.out _ _ (⟨rg_own_kept hHeld.1 (fun g2 hg2 => hb8.block g2 (rg_own_base hHeld.1 g2 hg2).2), hHeld.2.trans (hb8.mono hHeld.2.size)⟩) (fun hHeld => ?_)
              clear hK K
              try simp only [List.getElem_toArray, List.getElem_cons_zero, List.getElem_cons_succ, Act.put, List.setIfInBounds_toArray, List.set_cons_zero, List.set_cons_succ]
              refine wpAnyH_take (i := 17) (oi := _) (v := ?_) rfl (by kernel_rfl) (by kernel_rfl) (by kernel_rfl) (fun _ _ _ h => h) (Or.inl ⟨by rfl, ?_⟩) (by assumption) ?_
              rotate_left
              · (intro w hSw; (obtain ⟨q0, q1, q2, q3, q4⟩ := kid_cells hSw.1 HL.out k hlt _ HX.out); go_simp; try with_reducible rfl)
              try simp only [List.getElem_toArray, List.getElem_cons_zero, List.getElem_cons_succ, Act.put, List.setIfInBounds_toArray, List.set_cons_zero, List.set_cons_succ]
              refine wpAnyH_take (i := 18) (oi := _) (v := ?_) rfl (by kernel_rfl) (by kernel_rfl) (by kernel_rfl) (fun _ _ _ h => h) (Or.inl ⟨by rfl, ?_⟩) (by assumption) ?_
              rotate_left
              · (intro w hSw; (obtain ⟨q0, q1, q2, q3, q4⟩ := kid_cells hSw.1 HL.out k hlt _ HX.out); go_simp; try with_reducible rfl)
              try simp only [List.getElem_toArray, List.getElem_cons_zero, List.getElem_cons_succ, Act.put, List.setIfInBounds_toArray, List.set_cons_zero, List.set_cons_succ]
              refine wpAnyH_done (by kernel_rfl) ?_ _
              have HO9 := Lib.hid hHeld.1
              have HB9 := Lib.hid hHeld.2
              clear hHeld HO HB
              go_wp2_with fail
              go_roundw
              case rel => exact ⟨k + 1, by omega, by go_num, HO9, HB9⟩
              case measure => simp [intOf]; omega
            · have hki : ¬ (k : Int) < (s.size : Int) := by omega
              go_wp2_with fail
              refine (AW.out _).mono ?_
              rintro e w5 ⟨rfl, hb5⟩
              have HB5 := Lib.hid (HB.out.trans (hb5.mono HB.out.size))
              clear hb5
              go_wp2_with fail
              go_ret
              exact ⟨rfl, HB5.out⟩
end Go.Proofs.Ytgdalmdjbakbdaa
