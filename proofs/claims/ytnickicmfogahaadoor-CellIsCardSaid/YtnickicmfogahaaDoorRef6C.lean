/-
  CONTRACT of the document's own answer for two values (scriberef06.Compare): what it hands back; nothing that was there is written.
-/
import Derived.Test.YtnickicmfogahaaDoorRef6W
namespace Go.Proofs.YtnickicmfogahaaDoor
open Go.RowKit

theorem drop_at (s : ByteArray) (k : Nat) (h : k < s.size) : s.data.toList.drop k = s[k] :: s.data.toList.drop (k + 1) := by
  rw [List.drop_eq_getElem_cons (by simpa using h)]; rfl
theorem cmp_less (s t : ByteArray) (k : Nat) (h1 : k < s.size) (h2 : k < t.size) (h : (s[k].toNat : Int) < (t[k].toNat : Int)) : Lib.compareBytes (s.data.toList.drop k) (t.data.toList.drop k) = -1 := by
  rw [drop_at s k h1, drop_at t k h2]
  have : s[k] < t[k] := UInt8.lt_iff_toNat_lt.2 (by omega)
  simp [Lib.compareBytes, this]
theorem cmp_more (s t : ByteArray) (k : Nat) (h1 : k < s.size) (h2 : k < t.size) (h : (t[k].toNat : Int) < (s[k].toNat : Int)) : Lib.compareBytes (s.data.toList.drop k) (t.data.toList.drop k) = 1 := by
  rw [drop_at s k h1, drop_at t k h2]
  have h3 : t[k] < s[k] := UInt8.lt_iff_toNat_lt.2 (by omega)
  have h4 : ¬ s[k] < t[k] := fun h => by have := UInt8.lt_iff_toNat_lt.1 h; omega
  simp [Lib.compareBytes, h3, h4]
theorem cmp_same (s t : ByteArray) (k : Nat) (h1 : k < s.size) (h2 : k < t.size) (ha : ¬ (s[k].toNat : Int) < (t[k].toNat : Int)) (hb : ¬ (t[k].toNat : Int) < (s[k].toNat : Int)) : Lib.compareBytes (s.data.toList.drop k) (t.data.toList.drop k) = Lib.compareBytes (s.data.toList.drop (k + 1)) (t.data.toList.drop (k + 1)) := by
  rw [drop_at s k h1, drop_at t k h2]
  have h3 : ¬ t[k] < s[k] := fun h => by have := UInt8.lt_iff_toNat_lt.1 h; omega
  have h4 : ¬ s[k] < t[k] := fun h => by have := UInt8.lt_iff_toNat_lt.1 h; omega
  simp [Lib.compareBytes, h3, h4]
theorem cmp_end (s t : ByteArray) (k : Nat) (h1 : k ≤ s.size) (h2 : k ≤ t.size) (h : k = s.size ∨ k = t.size) : Lib.compareBytes (s.data.toList.drop k) (t.data.toList.drop k) = if s.size < t.size then -1 else if t.size < s.size then 1 else 0 := by
  have e : ∀ (u : ByteArray) (j : Nat), u.size ≤ j → u.data.toList.drop j = [] := fun u j h => List.drop_eq_nil_of_le (by simpa using h)
  by_cases a : k < s.size
  · have b : k = t.size := by omega
    rw [drop_at s k a, e t k (by omega), if_neg (by omega), if_pos (by omega)]; rfl
  · by_cases b : k < t.size
    · rw [drop_at t k b, e s k (by omega), if_pos (by omega)]; rfl
    · rw [e s k (by omega), e t k (by omega), if_neg (by omega), if_neg (by omega)]; rfl
def CmpPost (v : Int) (W : World) (e : Ending) (w' : World) : Prop := e = .returned (.int .i64 v) ∧ Below W.heap.size W w'
set_option maxRecDepth 100000 in
set_option maxHeartbeats 4000000 in
theorem rcomp_a (k : Int) (n1 : Int) (s1 : ByteArray) (n2 : Int) (s2 t1 t2 : ByteArray) (w : World) (h1 : t1.size ≤ 1000) (h2 : t2.size ≤ 1000)
    (C1 : Hid (∀ W, Calls Tryd.prog 13 #[.agg #[.int .i64 2, .int .i64 n1, .string s1]] W fun e w' => e = .returned (.string t1) ∧ Below W.heap.size W w'))
    (C2 : Hid (∀ W, Calls Tryd.prog 13 #[.agg #[.int .i64 k, .int .i64 n2, .string s2]] W fun e w' => e = .returned (.string t2) ∧ Below W.heap.size W w')) :
    Calls Tryd.prog 17 #[.agg #[.int .i64 2, .int .i64 n1, .string s1], .agg #[.int .i64 k, .int .i64 n2, .string s2]] w (CmpPost (Lib.compareBytes t1.data.toList t2.data.toList) w) := by
  obtain ⟨V, hV⟩ : ∃ V, Lib.compareBytes t1.data.toList t2.data.toList = V := ⟨_, rfl⟩
  rw [hV]
  have HV := Lib.hid hV
  clear hV
  go_enter Tryd.func17, Tryd.ntmps17
  go_wp2_with fail
  generalize hX : Obj.cells #[Value.int .i64 2, Value.int .i64 n1, Value.string s1] 27 = X
  generalize hY : Obj.cells #[Value.int .i64 k, Value.int .i64 n2, Value.string s2] 27 = Y
  obtain ⟨B1, hB1⟩ : ∃ B, w.heap.size = B := ⟨_, rfl⟩
  obtain ⟨B2, hB2⟩ : ∃ B, w.heap.size + 1 = B := ⟨_, rfl⟩
  have hs : ((w.alloc X).alloc Y).cell? ⟨B1, 0, none⟩ = some (.int .i64 2) ∧ ((w.alloc X).alloc Y).cell? ⟨B1, 1, none⟩ = some (.int .i64 n1) ∧ ((w.alloc X).alloc Y).cell? ⟨B1, 2, none⟩ = some (.string s1) ∧ ((w.alloc X).alloc Y).cell? ⟨B2, 0, none⟩ = some (.int .i64 k) ∧ ((w.alloc X).alloc Y).cell? ⟨B2, 1, none⟩ = some (.int .i64 n2) ∧ ((w.alloc X).alloc Y).cell? ⟨B2, 2, none⟩ = some (.string s2) ∧ Below w.heap.size w ((w.alloc X).alloc Y) := by
    rw [← hX, ← hY, ← hB1, ← hB2]
    refine ⟨by simp [go_sem], by simp [go_sem], by simp [go_sem], by simp [go_sem], by simp [go_sem], by simp [go_sem], ((Below.refl _ _).alloc (Nat.le_refl _) _).alloc (by simp) _⟩
  clear hX hY
  rw [hB2, hB1]
  generalize (w.alloc X).alloc Y = w0 at *
  clear hB1 hB2
  go_region_held3 (fun w' => w'.cell? ⟨B1, 0, none⟩ = some (.int .i64 2) ∧ w'.cell? ⟨B1, 1, none⟩ = some (.int .i64 n1) ∧ w'.cell? ⟨B1, 2, none⟩ = some (.string s1) ∧ w'.cell? ⟨B2, 0, none⟩ = some (.int .i64 k) ∧ w'.cell? ⟨B2, 1, none⟩ = some (.int .i64 n2) ∧ w'.cell? ⟨B2, 2, none⟩ = some (.string s2) ∧ Below w.heap.size w w') (first | assumption | exact draw6 (by assumption) | go_keep) (first
    | ((with_reducible refine (C1.out _).mono ?_); rintro e w8 ⟨rfl, hb8⟩; have k8 := keep6 (by assumption) hb8)
    | ((with_reducible refine (C2.out _).mono ?_); rintro e w8 ⟨rfl, hb8⟩; have k8 := keep6 (by assumption) hb8))
  have HB9 : Hid (Below w.heap.size w w8) := Lib.hid (below6 (by assumption))
  clear C1 C2 hs
  have hi1 : (t1.size : Int) ≤ 1000 := by omega
  have hi2 : (t2.size : Int) ≤ 1000 := by omega
  go_wp2_with fail
  go_loopw [7] (fun iv wr => ∃ k : Nat, k ≤ t1.size ∧ k ≤ t2.size ∧ iv = .int .i64 k ∧ Hid (Lib.compareBytes (t1.data.toList.drop k) (t2.data.toList.drop k) = V) ∧ Hid (Below w.heap.size w wr)) (fun iv _ => t1.size - (intOf iv).toNat)
  case atStart => exact ⟨0, Nat.zero_le _, Nat.zero_le _, rfl, Lib.hid (by simpa using HV.out), HB9⟩
  case round =>
    obtain ⟨j, hj1, hj2, rfl, HE, HB⟩ := hrel
    by_cases hl1 : j < t1.size
    · by_cases hl2 : j < t2.size
      · have hx1 : (j : Int) < (t1.size : Int) := by omega
        have hx2 : (j : Int) < (t2.size : Int) := by omega
        have d1 : decide (j < t1.size) = true := decide_eq_true hl1
        have d2 : decide (j < t2.size) = true := decide_eq_true hl2
        by_cases ha : (t1[j].toNat : Int) < (t2[j].toNat : Int)
        · have HF : Hid (V = -1) := Lib.hid (by rw [← HE.out]; exact cmp_less t1 t2 j hl1 hl2 ha)
          go_wp2_with fail
          go_quiet (fail)
          go_wp2_with fail
          go_ret
          exact ⟨ret_i HF.out.symm, HB.out.trans ((show Dr _ _ from ⟨_, rfl⟩).below.mono HB.out.size)⟩
        · by_cases hb : (t2[j].toNat : Int) < (t1[j].toNat : Int)
          · have HF : Hid (V = 1) := Lib.hid (by rw [← HE.out]; exact cmp_more t1 t2 j hl1 hl2 hb)
            go_wp2_with fail
            go_quiet (fail)
            go_wp2_with fail
            go_quiet (fail)
            go_wp2_with fail
            go_ret
            exact ⟨ret_i HF.out.symm, HB.out.trans ((show Dr _ _ from ⟨_, by first | rfl | rw [World.drewN_drewN]⟩).below.mono HB.out.size)⟩
          · have HF : Hid (Lib.compareBytes (t1.data.toList.drop (j + 1)) (t2.data.toList.drop (j + 1)) = V) := Lib.hid (by rw [← HE.out]; exact (cmp_same t1 t2 j hl1 hl2 ha hb).symm)
            go_wp2_with fail
            go_quiet (fail)
            go_wp2_with fail
            go_quiet (fail)
            go_wp2_with fail
            go_roundw
            case rel => exact ⟨j + 1, by omega, by omega, by go_num, HF, Lib.hid (HB.out.trans ((show Dr _ _ from ⟨_, by first | rfl | rw [World.drewN_drewN]⟩).below.mono HB.out.size))⟩
            case measure => simp [intOf]; omega
      · have d2 : decide (j < t2.size) = false := decide_eq_false hl2
        have hx2 : ¬ (j : Int) < (t2.size : Int) := by omega
        have hlt : ¬ t1.size < t2.size := by omega
        have hgt : t2.size < t1.size := by omega
        have HF : Hid (V = 1) := Lib.hid (by rw [← HE.out, cmp_end t1 t2 j hj1 hj2 (by omega), if_neg hlt, if_pos hgt])
        have e1 : decide (t1.size < t2.size) = false := decide_eq_false hlt
        have e2 : decide (t2.size < t1.size) = true := decide_eq_true hgt
        go_wp2_with fail
        go_ret
        exact ⟨ret_i HF.out.symm, HB.out⟩
    · have d1 : decide (j < t1.size) = false := decide_eq_false hl1
      have hx1 : ¬ (j : Int) < (t1.size : Int) := by omega
      by_cases hlt : t1.size < t2.size
      · have HF : Hid (V = -1) := Lib.hid (by rw [← HE.out, cmp_end t1 t2 j hj1 hj2 (by omega), if_pos hlt])
        have e1 : decide (t1.size < t2.size) = true := decide_eq_true hlt
        go_wp2_with fail
        go_ret
        exact ⟨ret_i HF.out.symm, HB.out⟩
      · have hgt : ¬ t2.size < t1.size := by omega
        have HF : Hid (V = 0) := Lib.hid (by rw [← HE.out, cmp_end t1 t2 j hj1 hj2 (by omega), if_neg hlt, if_neg hgt])
        have e1 : decide (t1.size < t2.size) = false := decide_eq_false hlt
        have e2 : decide (t2.size < t1.size) = false := decide_eq_false hgt
        go_wp2_with fail
        go_ret
        exact ⟨ret_i HF.out.symm, HB.out⟩
set_option maxRecDepth 100000 in
set_option maxHeartbeats 4000000 in
theorem rcomp_b (k : Int) (n1 : Int) (s1 : ByteArray) (n2 : Int) (s2 t1 t2 : ByteArray) (w : World) (hk : k ≠ 2) (h1 : t1.size ≤ 1000) (h2 : t2.size ≤ 1000)
    (C1 : Hid (∀ W, Calls Tryd.prog 13 #[.agg #[.int .i64 k, .int .i64 n1, .string s1]] W fun e w' => e = .returned (.string t1) ∧ Below W.heap.size W w'))
    (C2 : Hid (∀ W, Calls Tryd.prog 13 #[.agg #[.int .i64 2, .int .i64 n2, .string s2]] W fun e w' => e = .returned (.string t2) ∧ Below W.heap.size W w')) :
    Calls Tryd.prog 17 #[.agg #[.int .i64 k, .int .i64 n1, .string s1], .agg #[.int .i64 2, .int .i64 n2, .string s2]] w (CmpPost (Lib.compareBytes t1.data.toList t2.data.toList) w) := by
  obtain ⟨V, hV⟩ : ∃ V, Lib.compareBytes t1.data.toList t2.data.toList = V := ⟨_, rfl⟩
  rw [hV]
  have HV := Lib.hid hV
  clear hV
  have e1 : (k == 2) = false := by simpa using hk
  go_enter Tryd.func17, Tryd.ntmps17
  go_wp2_with fail
  generalize hX : Obj.cells #[Value.int .i64 k, Value.int .i64 n1, Value.string s1] 27 = X
  generalize hY : Obj.cells #[Value.int .i64 2, Value.int .i64 n2, Value.string s2] 27 = Y
  obtain ⟨B1, hB1⟩ : ∃ B, w.heap.size = B := ⟨_, rfl⟩
  obtain ⟨B2, hB2⟩ : ∃ B, w.heap.size + 1 = B := ⟨_, rfl⟩
  have hs : ((w.alloc X).alloc Y).cell? ⟨B1, 0, none⟩ = some (.int .i64 k) ∧ ((w.alloc X).alloc Y).cell? ⟨B1, 1, none⟩ = some (.int .i64 n1) ∧ ((w.alloc X).alloc Y).cell? ⟨B1, 2, none⟩ = some (.string s1) ∧ ((w.alloc X).alloc Y).cell? ⟨B2, 0, none⟩ = some (.int .i64 2) ∧ ((w.alloc X).alloc Y).cell? ⟨B2, 1, none⟩ = some (.int .i64 n2) ∧ ((w.alloc X).alloc Y).cell? ⟨B2, 2, none⟩ = some (.string s2) ∧ Below w.heap.size w ((w.alloc X).alloc Y) := by
    rw [← hX, ← hY, ← hB1, ← hB2]
    refine ⟨by simp [go_sem], by simp [go_sem], by simp [go_sem], by simp [go_sem], by simp [go_sem], by simp [go_sem], ((Below.refl _ _).alloc (Nat.le_refl _) _).alloc (by simp) _⟩
  clear hX hY
  rw [hB2, hB1]
  generalize (w.alloc X).alloc Y = w0 at *
  clear hB1 hB2
  go_region_held3 (fun w' => w'.cell? ⟨B1, 0, none⟩ = some (.int .i64 k) ∧ w'.cell? ⟨B1, 1, none⟩ = some (.int .i64 n1) ∧ w'.cell? ⟨B1, 2, none⟩ = some (.string s1) ∧ w'.cell? ⟨B2, 0, none⟩ = some (.int .i64 2) ∧ w'.cell? ⟨B2, 1, none⟩ = some (.int .i64 n2) ∧ w'.cell? ⟨B2, 2, none⟩ = some (.string s2) ∧ Below w.heap.size w w') (first | assumption | exact draw6 (by assumption) | go_keep) (first
    | ((with_reducible refine (C1.out _).mono ?_); rintro e w8 ⟨rfl, hb8⟩; have k8 := keep6 (by assumption) hb8)
    | ((with_reducible refine (C2.out _).mono ?_); rintro e w8 ⟨rfl, hb8⟩; have k8 := keep6 (by assumption) hb8))
  have HB9 : Hid (Below w.heap.size w w8) := Lib.hid (below6 (by assumption))
  clear C1 C2 hs
  have hi1 : (t1.size : Int) ≤ 1000 := by omega
  have hi2 : (t2.size : Int) ≤ 1000 := by omega
  go_wp2_with fail
  go_loopw [7] (fun iv wr => ∃ k : Nat, k ≤ t1.size ∧ k ≤ t2.size ∧ iv = .int .i64 k ∧ Hid (Lib.compareBytes (t1.data.toList.drop k) (t2.data.toList.drop k) = V) ∧ Hid (Below w.heap.size w wr)) (fun iv _ => t1.size - (intOf iv).toNat)
  case atStart => exact ⟨0, Nat.zero_le _, Nat.zero_le _, rfl, Lib.hid (by simpa using HV.out), HB9⟩
  case round =>
    obtain ⟨j, hj1, hj2, rfl, HE, HB⟩ := hrel
    by_cases hl1 : j < t1.size
    · by_cases hl2 : j < t2.size
      · have hx1 : (j : Int) < (t1.size : Int) := by omega
        have hx2 : (j : Int) < (t2.size : Int) := by omega
        have d1 : decide (j < t1.size) = true := decide_eq_true hl1
        have d2 : decide (j < t2.size) = true := decide_eq_true hl2
        by_cases ha : (t1[j].toNat : Int) < (t2[j].toNat : Int)
        · have HF : Hid (V = -1) := Lib.hid (by rw [← HE.out]; exact cmp_less t1 t2 j hl1 hl2 ha)
          go_wp2_with fail
          go_quiet (fail)
          go_wp2_with fail
          go_ret
          exact ⟨ret_i HF.out.symm, HB.out.trans ((show Dr _ _ from ⟨_, rfl⟩).below.mono HB.out.size)⟩
        · by_cases hb : (t2[j].toNat : Int) < (t1[j].toNat : Int)
          · have HF : Hid (V = 1) := Lib.hid (by rw [← HE.out]; exact cmp_more t1 t2 j hl1 hl2 hb)
            go_wp2_with fail
            go_quiet (fail)
            go_wp2_with fail
            go_quiet (fail)
            go_wp2_with fail
            go_ret
            exact ⟨ret_i HF.out.symm, HB.out.trans ((show Dr _ _ from ⟨_, by first | rfl | rw [World.drewN_drewN]⟩).below.mono HB.out.size)⟩
          · have HF : Hid (Lib.compareBytes (t1.data.toList.drop (j + 1)) (t2.data.toList.drop (j + 1)) = V) := Lib.hid (by rw [← HE.out]; exact (cmp_same t1 t2 j hl1 hl2 ha hb).symm)
            go_wp2_with fail
            go_quiet (fail)
            go_wp2_with fail
            go_quiet (fail)
            go_wp2_with fail
            go_roundw
            case rel => exact ⟨j + 1, by omega, by omega, by go_num, HF, Lib.hid (HB.out.trans ((show Dr _ _ from ⟨_, by first | rfl | rw [World.drewN_drewN]⟩).below.mono HB.out.size))⟩
            case measure => simp [intOf]; omega
      · have d2 : decide (j < t2.size) = false := decide_eq_false hl2
        have hx2 : ¬ (j : Int) < (t2.size : Int) := by omega
        have hlt : ¬ t1.size < t2.size := by omega
        have hgt : t2.size < t1.size := by omega
        have HF : Hid (V = 1) := Lib.hid (by rw [← HE.out, cmp_end t1 t2 j hj1 hj2 (by omega), if_neg hlt, if_pos hgt])
        have e1 : decide (t1.size < t2.size) = false := decide_eq_false hlt
        have e2 : decide (t2.size < t1.size) = true := decide_eq_true hgt
        go_wp2_with fail
        go_ret
        exact ⟨ret_i HF.out.symm, HB.out⟩
    · have d1 : decide (j < t1.size) = false := decide_eq_false hl1
      have hx1 : ¬ (j : Int) < (t1.size : Int) := by omega
      by_cases hlt : t1.size < t2.size
      · have HF : Hid (V = -1) := Lib.hid (by rw [← HE.out, cmp_end t1 t2 j hj1 hj2 (by omega), if_pos hlt])
        have e1 : decide (t1.size < t2.size) = true := decide_eq_true hlt
        go_wp2_with fail
        go_ret
        exact ⟨ret_i HF.out.symm, HB.out⟩
      · have hgt : ¬ t2.size < t1.size := by omega
        have HF : Hid (V = 0) := Lib.hid (by rw [← HE.out, cmp_end t1 t2 j hj1 hj2 (by omega), if_neg hlt, if_neg hgt])
        have e1 : decide (t1.size < t2.size) = false := decide_eq_false hlt
        have e2 : decide (t2.size < t1.size) = false := decide_eq_false hgt
        go_wp2_with fail
        go_ret
        exact ⟨ret_i HF.out.symm, HB.out⟩
theorem rcomp_num (k1 n1 : Int) (s1 : ByteArray) (k2 n2 : Int) (s2 : ByteArray) (w : World) (h1 : k1 ≠ 2) (h2 : k2 ≠ 2) :
    Calls Tryd.prog 17 #[.agg #[.int .i64 k1, .int .i64 n1, .string s1], .agg #[.int .i64 k2, .int .i64 n2, .string s2]] w (CmpPost (cmpI n1 n2) w) := by
  have h1' : (k1 == 2) = false := by simpa using h1
  have h2' : (k2 == 2) = false := by simpa using h2
  have h1'' : (k1 != 2) = true := by simpa using h1
  have h2'' : (k2 != 2) = true := by simpa using h2
  by_cases a : n1 < n2
  · have e : cmpI n1 n2 = -1 := by unfold cmpI; rw [if_pos a]
    rw [e]
    go_enter Tryd.func17, Tryd.ntmps17
    go_wp2_with fail
    go_ret
    exact ⟨rfl, ((Below.refl _ _).alloc (Nat.le_refl _) _).alloc (by simp) _⟩
  · by_cases b : n2 < n1
    · have e : cmpI n1 n2 = 1 := by unfold cmpI; rw [if_neg a, if_pos b]
      rw [e]
      go_enter Tryd.func17, Tryd.ntmps17
      go_wp2_with fail
      go_ret
      exact ⟨rfl, ((Below.refl _ _).alloc (Nat.le_refl _) _).alloc (by simp) _⟩
    · have e : cmpI n1 n2 = 0 := by unfold cmpI; rw [if_neg a, if_neg b]
      rw [e]
      go_enter Tryd.func17, Tryd.ntmps17
      go_wp2_with fail
      go_ret
      exact ⟨rfl, ((Below.refl _ _).alloc (Nat.le_refl _) _).alloc (by simp) _⟩
theorem rcomp_any (k1 n1 : Int) (s1 : ByteArray) (k2 n2 : Int) (s2 : ByteArray) (w : World) (h1 : k1 = 1 → OkN n1) (h2 : k2 = 1 → OkN n2) (z1 : (strC k1 n1 s1).size ≤ 1000) (z2 : (strC k2 n2 s2).size ≤ 1000) :
    Calls Tryd.prog 17 #[.agg #[.int .i64 k1, .int .i64 n1, .string s1], .agg #[.int .i64 k2, .int .i64 n2, .string s2]] w fun e w' => e = .returned (.int .i64 (compC k1 n1 s1 k2 n2 s2)) ∧ Below w.heap.size w w' := by
  unfold compC
  by_cases a : k1 = 2
  · rw [if_pos (.inl a)]
    subst a
    exact rcomp_a k2 n1 s1 n2 s2 _ _ w z1 z2 (Lib.hid fun W => rstr_any 2 n1 s1 W h1) (Lib.hid fun W => rstr_any k2 n2 s2 W h2)
  · by_cases b : k2 = 2
    · rw [if_pos (.inr b)]
      subst b
      exact rcomp_b k1 n1 s1 n2 s2 _ _ w a z1 z2 (Lib.hid fun W => rstr_any k1 n1 s1 W h1) (Lib.hid fun W => rstr_any 2 n2 s2 W h2)
    · rw [if_neg (by rintro (h | h); exact a h; exact b h)]
      exact rcomp_num k1 n1 s1 k2 n2 s2 w a b
end Go.Proofs.YtnickicmfogahaaDoor
