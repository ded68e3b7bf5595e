/-
  CONTRACTS of the document's own answers of layer 6 (scriberef06's Good, Num, Str, True): what each hands back; nothing that was there is written.
-/
import Derived.Test.YtnickicmfogahaaDoorCMakesW
namespace Go.Proofs.YtnickicmfogahaaDoor
open Go.RowKit

/-- What the document asks of a value. -/
def goodR (k n : Int) (s : ByteArray) : Bool :=
  if k = 0 then decide (n = 0) && decide (s.data.toList = []) else if k = 1 then decide (s.data.toList = []) && decide (-4611686018427387903 ≤ n) && decide (n ≤ 4611686018427387903)
  else if k = 2 then decide (n = 0) else decide (k = 3) && (decide (inK s.data.toList = 3) && decide (inN s.data.toList = n))
theorem rgood_low (k n : Int) (s : ByteArray) (w : World) (hk : k = 0 ∨ k = 1 ∨ k = 2) :
    Calls Tryd.prog 9 #[.agg #[.int .i64 k, .int .i64 n, .string s]] w fun e w' => e = .returned (.bool (goodR k n s)) ∧ Below w.heap.size w w' := by
  unfold goodR
  rcases hk with rfl | rfl | rfl
  · by_cases hn : n = 0
    all_goals by_cases hl : s.toList = []
    all_goals
      have hl' : s.toList.isEmpty = decide (s.toList = []) := by cases s.toList <;> rfl
      have hld : decide (s.data.toList = []) = decide (s.toList = []) := by rw [toList_data']
      rw [hld]
      simp only [hl, decide_true, decide_false] at hl'
      clear hld
      go_enter Tryd.func9, Tryd.ntmps9
      go_wp2
      go_ret
      exact ⟨by simp [hn, hl], (Below.refl _ _).alloc (Nat.le_refl _) _⟩
  · by_cases hl : s.toList = []
    · have hl' : s.toList.isEmpty = true := by rw [hl]; rfl
      have hld : decide (s.data.toList = []) = true := by rw [← toList_data']; exact decide_eq_true hl
      rw [hld]
      clear hld
      by_cases h1 : -4611686018427387903 ≤ n
      · by_cases h2 : n ≤ 4611686018427387903
        · go_enter Tryd.func9, Tryd.ntmps9
          go_wp2
          go_ret
          exact ⟨by simp [h1, h2], (Below.refl _ _).alloc (Nat.le_refl _) _⟩
        · have h3 : 4611686018427387903 < n := by omega
          go_enter Tryd.func9, Tryd.ntmps9
          go_wp2
          go_ret
          exact ⟨by simp [h1, h2], (Below.refl _ _).alloc (Nat.le_refl _) _⟩
      · have h3 : n < -4611686018427387903 := by omega
        have d1 : decide (-4611686018427387903 ≤ n) = false := decide_eq_false h1
        rw [d1]
        clear h1
        go_enter Tryd.func9, Tryd.ntmps9
        go_wp2
        trace_state
        go_ret
        exact ⟨by simp, (Below.refl _ _).alloc (Nat.le_refl _) _⟩
    · have hl' : s.toList.isEmpty = false := by cases h : s.toList with | nil => exact absurd h hl | cons a l => rfl
      have hld : decide (s.data.toList = []) = false := by rw [← toList_data']; exact decide_eq_false hl
      rw [hld]
      clear hld
      go_enter Tryd.func9, Tryd.ntmps9
      go_wp2
      go_ret
      exact ⟨by simp, (Below.refl _ _).alloc (Nat.le_refl _) _⟩
  · by_cases hn : n = 0
    all_goals
      go_enter Tryd.func9, Tryd.ntmps9
      go_wp2
      go_ret
      exact ⟨by simp [hn], (Below.refl _ _).alloc (Nat.le_refl _) _⟩
set_option maxHeartbeats 2000000 in
theorem rgood_high (k n : Int) (s : ByteArray) (w : World) (hs : s.size ≤ 1000000) (h0 : k ≠ 0) (h1 : k ≠ 1) (h2 : k ≠ 2) :
    Calls Tryd.prog 9 #[.agg #[.int .i64 k, .int .i64 n, .string s]] w fun e w' => e = .returned (.bool (goodR k n s)) ∧ Below w.heap.size w w' := by
  have e0 : (k == 0) = false := by simpa using h0
  have e1 : (k == 1) = false := by simpa using h1
  have e2 : (k == 2) = false := by simpa using h2
  have hR : goodR k n s = (decide (k = 3) && (decide (inK s.data.toList = 3) && decide (inN s.data.toList = n))) := by unfold goodR; rw [if_neg h0, if_neg h1, if_neg h2]
  rw [hR]
  have CR := Lib.hid fun W => rinput_any s W hs
  clear hR h0 h1 h2
  generalize inK s.data.toList = ik at *
  generalize inN s.data.toList = iN at *
  by_cases h3 : k = 3
  · subst h3
    by_cases hik : ik = 3 ∧ iN = n
    · obtain ⟨rfl, rfl⟩ := hik
      go_enter Tryd.func9, Tryd.ntmps9
      go_wp2_with fail
      generalize hX : Obj.cells #[Value.int .i64 3, Value.int .i64 iN, Value.string s] 27 = X
      obtain ⟨B1, hB1⟩ : ∃ B, w.heap.size = B := ⟨_, rfl⟩
      have hs3 : (w.alloc X).cell? ⟨B1, 0, none⟩ = some (.int .i64 3) ∧ (w.alloc X).cell? ⟨B1, 1, none⟩ = some (.int .i64 iN) ∧ (w.alloc X).cell? ⟨B1, 2, none⟩ = some (.string s) ∧ Below w.heap.size w (w.alloc X) := by
        rw [← hX, ← hB1]
        refine ⟨by simp [go_sem], by simp [go_sem], by simp [go_sem], (Below.refl _ _).alloc (Nat.le_refl _) _⟩
      clear hX
      rw [hB1]
      generalize (w.alloc X) = w0 at *
      clear hB1
      go_region_held3 (fun w' => w'.cell? ⟨B1, 0, none⟩ = some (.int .i64 3) ∧ w'.cell? ⟨B1, 1, none⟩ = some (.int .i64 iN) ∧ w'.cell? ⟨B1, 2, none⟩ = some (.string s) ∧ Below w.heap.size w w') (first | assumption | exact draw3 (by assumption) | go_keep) (first
        | ((with_reducible refine (CR.out _).mono ?_); rintro e w8 ⟨rfl, hb8⟩; have k8 := keep3 (by assumption) hb8))
      all_goals
        have HB9 : Hid (Below w.heap.size w w8) := Lib.hid (below3 (by assumption))
        go_wp2_with fail
        go_ret
        exact ⟨by simp, HB9.out⟩
    · have hd : (decide (ik = 3) && decide (iN = n)) = false := by
        rw [Bool.and_eq_false_iff]
        by_cases a : ik = 3
        · right; exact decide_eq_false fun b => hik ⟨a, b⟩
        · left; exact decide_eq_false a
      rw [hd]
      by_cases a : ik = 3
      · have b : ¬ iN = n := fun b => hik ⟨a, b⟩
        subst a
        have b1 : (iN == n) = false := by simpa using b
        have b2 : decide (iN = n) = false := decide_eq_false b
        clear hik hd
        go_enter Tryd.func9, Tryd.ntmps9
        go_wp2_with fail
        generalize hX : Obj.cells #[Value.int .i64 3, Value.int .i64 n, Value.string s] 27 = X
        obtain ⟨B1, hB1⟩ : ∃ B, w.heap.size = B := ⟨_, rfl⟩
        have hs3 : (w.alloc X).cell? ⟨B1, 0, none⟩ = some (.int .i64 3) ∧ (w.alloc X).cell? ⟨B1, 1, none⟩ = some (.int .i64 n) ∧ (w.alloc X).cell? ⟨B1, 2, none⟩ = some (.string s) ∧ Below w.heap.size w (w.alloc X) := by
          rw [← hX, ← hB1]
          refine ⟨by simp [go_sem], by simp [go_sem], by simp [go_sem], (Below.refl _ _).alloc (Nat.le_refl _) _⟩
        clear hX
        rw [hB1]
        generalize (w.alloc X) = w0 at *
        clear hB1
        go_region_held3 (fun w' => w'.cell? ⟨B1, 0, none⟩ = some (.int .i64 3) ∧ w'.cell? ⟨B1, 1, none⟩ = some (.int .i64 n) ∧ w'.cell? ⟨B1, 2, none⟩ = some (.string s) ∧ Below w.heap.size w w') (first | assumption | exact draw3 (by assumption) | go_keep) (first
          | ((with_reducible refine (CR.out _).mono ?_); rintro e w8 ⟨rfl, hb8⟩; have k8 := keep3 (by assumption) hb8))
        all_goals
          have HB9 : Hid (Below w.heap.size w w8) := Lib.hid (below3 (by assumption))
          go_wp2_with fail
          go_ret
          exact ⟨by simp, HB9.out⟩
      · have b1 : (ik == 3) = false := by simpa using a
        have b2 : decide (ik = 3) = false := decide_eq_false a
        clear hik hd
        go_enter Tryd.func9, Tryd.ntmps9
        go_wp2_with fail
        generalize hX : Obj.cells #[Value.int .i64 3, Value.int .i64 n, Value.string s] 27 = X
        obtain ⟨B1, hB1⟩ : ∃ B, w.heap.size = B := ⟨_, rfl⟩
        have hs3 : (w.alloc X).cell? ⟨B1, 0, none⟩ = some (.int .i64 3) ∧ (w.alloc X).cell? ⟨B1, 1, none⟩ = some (.int .i64 n) ∧ (w.alloc X).cell? ⟨B1, 2, none⟩ = some (.string s) ∧ Below w.heap.size w (w.alloc X) := by
          rw [← hX, ← hB1]
          refine ⟨by simp [go_sem], by simp [go_sem], by simp [go_sem], (Below.refl _ _).alloc (Nat.le_refl _) _⟩
        clear hX
        rw [hB1]
        generalize (w.alloc X) = w0 at *
        clear hB1
        go_region_held3 (fun w' => w'.cell? ⟨B1, 0, none⟩ = some (.int .i64 3) ∧ w'.cell? ⟨B1, 1, none⟩ = some (.int .i64 n) ∧ w'.cell? ⟨B1, 2, none⟩ = some (.string s) ∧ Below w.heap.size w w') (first | assumption | exact draw3 (by assumption) | go_keep) (first
          | ((with_reducible refine (CR.out _).mono ?_); rintro e w8 ⟨rfl, hb8⟩; have k8 := keep3 (by assumption) hb8))
        all_goals
          have HB9 : Hid (Below w.heap.size w w8) := Lib.hid (below3 (by assumption))
          go_wp2_with fail
          go_ret
          exact ⟨by simp, HB9.out⟩
  · have e3 : (k == 3) = false := by simpa using h3
    have e3d : decide (k = 3) = false := decide_eq_false h3
    go_enter Tryd.func9, Tryd.ntmps9
    go_wp2_with fail
    go_quiet (fail)
    go_wp2_with fail
    go_ret
    exact ⟨by simp [h3], ((Below.refl _ _).alloc (Nat.le_refl _) _).trans ((show Dr _ _ from ⟨_, rfl⟩).below.mono (by simp))⟩
theorem rgood_any (k n : Int) (s : ByteArray) (w : World) (hs : s.size ≤ 1000000) :
    Calls Tryd.prog 9 #[.agg #[.int .i64 k, .int .i64 n, .string s]] w fun e w' => e = .returned (.bool (goodR k n s)) ∧ Below w.heap.size w w' := by
  by_cases h : k = 0 ∨ k = 1 ∨ k = 2
  · exact rgood_low k n s w h
  · exact rgood_high k n s w hs (fun e => h (.inl e)) (fun e => h (.inr (.inl e))) (fun e => h (.inr (.inr e)))
theorem goodR_iff (k n : Int) (s : ByteArray) : goodR k n s = true ↔ GoodC k n s := by
  unfold goodR GoodC
  by_cases h0 : k = 0
  · subst h0; simp
  by_cases h1 : k = 1
  · subst h1; simp [OkN]; constructor
    · rintro ⟨⟨a, b⟩, c⟩; exact ⟨⟨b, c⟩, a⟩
    · rintro ⟨⟨b, c⟩, a⟩; exact ⟨⟨a, b⟩, c⟩
  by_cases h2 : k = 2
  · subst h2; simp
  by_cases h3 : k = 3
  · subst h3
    unfold inK inN
    obtain ⟨v, hv⟩ : ∃ v, looksL s.data.toList = v := ⟨_, rfl⟩
    rw [hv]
    obtain ⟨v1, v2⟩ := v
    cases v2 <;> simp
  · simp [h0, h1, h2, h3]
theorem rnum_any (k n : Int) (s : ByteArray) (w : World) (hs : s.size ≤ 1000000) :
    Calls Tryd.prog 11 #[.agg #[.int .i64 k, .int .i64 n, .string s]] w fun e w' => e = .returned (.int .i64 (numC k n s)) ∧ Below w.heap.size w w' := by
  unfold numC
  by_cases h2 : k = 2
  · subst h2
    have C1 : Hid (∀ W, Calls Tryd.prog 28 #[.string s] W fun e w' => e = .returned (.tuple #[.int .i64 (prefixL s.data.toList).1, .int .i64 ((prefixL s.data.toList).2 : Int)]) ∧ W = w') := Lib.hid fun W => rprefix_any s W hs
    go_enter Tryd.func11, Tryd.ntmps11
    go_wp2_with fail
    refine (C1.out _).mono ?_
    rintro e w1 ⟨rfl, rfl⟩
    go_wp2_with fail
    go_ret
    exact ⟨rfl, (Below.refl _ _).alloc (Nat.le_refl _) _⟩
  · have e2 : (k == 2) = false := by simpa using h2
    go_enter Tryd.func11, Tryd.ntmps11
    go_wp2_with fail
    go_ret
    exact ⟨ret_i (by simp [h2]), (Below.refl _ _).alloc (Nat.le_refl _) _⟩
theorem rstr_any (k n : Int) (s : ByteArray) (w : World) (hn : k = 1 → OkN n) :
    Calls Tryd.prog 13 #[.agg #[.int .i64 k, .int .i64 n, .string s]] w fun e w' => e = .returned (.string (strC k n s)) ∧ Below w.heap.size w w' := by
  unfold strC
  by_cases h1 : k = 1
  · subst h1
    have C1 := Lib.hid fun W => rtext_any n W (hn rfl)
    clear hn
    go_enter Tryd.func13, Tryd.ntmps13
    go_wp2_with fail
    refine (C1.out _).mono ?_
    rintro e w1 ⟨rfl, hb1⟩
    have HB1 := Lib.hid (below_new hb1)
    clear hb1
    go_wp2_with fail
    go_ret
    exact ⟨rfl, HB1.out⟩
  · have e1 : (k == 1) = false := by simpa using h1
    go_enter Tryd.func13, Tryd.ntmps13
    go_wp2_with fail
    go_ret
    exact ⟨ret_s (by simp [h1]), (Below.refl _ _).alloc (Nat.le_refl _) _⟩
theorem rtrue_any (k n : Int) (s : ByteArray) (w : World) (hs : s.size ≤ 1000000) :
    Calls Tryd.prog 15 #[.agg #[.int .i64 k, .int .i64 n, .string s]] w fun e w' => e = .returned (.bool (trueC k n s)) ∧ Below w.heap.size w w' := by
  unfold trueC
  have hsi : (s.size : Int) ≤ 1000000 := by omega
  by_cases h2 : k = 2
  · subst h2
    have hz : decide (s.toList = []) = decide (s.size = 0) := by
      rw [toList_data']
      have : s.data.toList = [] ↔ s.size = 0 := by rw [← List.length_eq_zero_iff]; simp
      simp [this]
    by_cases h0 : 0 < s.size
    · have h0i : 0 < (s.size : Int) := by omega
      have hz2 : decide (s.toList = []) = false := by rw [hz]; exact decide_eq_false (by omega)
      rw [hz2]
      clear hz hz2
      go_enter Tryd.func15, Tryd.ntmps15
      go_wp2_with fail
      go_ret
      exact ⟨by simp, (Below.refl _ _).alloc (Nat.le_refl _) _⟩
    · have h0i : ¬ 0 < (s.size : Int) := by omega
      have h0d : decide (0 < s.size) = false := decide_eq_false h0
      have hz2 : decide (s.toList = []) = true := by rw [hz]; exact decide_eq_true (by omega)
      rw [hz2]
      clear hz hz2
      go_enter Tryd.func15, Tryd.ntmps15
      go_wp2_with fail
      go_ret
      exact ⟨by simp, (Below.refl _ _).alloc (Nat.le_refl _) _⟩
  · have e2 : (k == 2) = false := by simpa using h2
    by_cases hn : n = 0
    all_goals
      go_enter Tryd.func15, Tryd.ntmps15
      go_wp2_with fail
      go_ret
      exact ⟨by simp [hn, h2], (Below.refl _ _).alloc (Nat.le_refl _) _⟩
end Go.Proofs.YtnickicmfogahaaDoor
