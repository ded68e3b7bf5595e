/-
  CONTRACTS of layer 6's calls on a value (cell.Good, Num, Str, True, text) and of the statements' own Cut: what each hands back; nothing that was there is written. Condition where a number is made a text: the library's table of powers of ten is as it was laid.
-/
import Derived.Test.YtipcanbeegladaaGreatDoorCellW1
namespace Go.Proofs.YtipcanbeegladaaGreatDoor
open Go.RowKit

def GoodC (k n : Int) (s : ByteArray) : Prop := (k = 0 ∧ n = 0 ∧ s.data.toList = []) ∨ (k = 1 ∧ OkN n ∧ s.data.toList = []) ∨ (k = 2 ∧ n = 0) ∨ (k = 3 ∧ looksL s.data.toList = (n, true))
theorem nil_iff (s : ByteArray) : s.toList = [] ↔ s.data.toList = [] := by rw [toList_data']
theorem nil_ba (s : ByteArray) (h : s.data.toList = []) : s = ⟨#[]⟩ := WideShapes.bytes_inj (by rw [h])
/-- Is it a value? -/
theorem good_any (k n : Int) (s : ByteArray) (w : World) (hs : s.size ≤ 1000000) :
    ∃ b : Bool, (b = true ↔ GoodC k n s) ∧ Calls Tryz.prog 11 #[cv k n s] w fun e w' => e = .returned (.bool b) ∧ Below w.heap.size w w' := by
  unfold cv
  by_cases h0 : k = 0
  · subst h0
    refine ⟨decide (n = 0) && decide (s.toList = []), by simp [GoodC, nil_iff], ?_⟩
    by_cases hn : n = 0
    all_goals by_cases hl : s.toList = []
    all_goals
      have hl' : s.toList.isEmpty = decide (s.toList = []) := by cases s.toList <;> rfl
      simp only [hl, decide_true, decide_false] at hl'
      go_enter Tryz.func11, Tryz.ntmps11
      go_wp2
      go_ret
      exact ⟨by simp [hn, hl], (Below.refl _ _).alloc (Nat.le_refl _) _⟩
  by_cases h1 : k = 1
  · subst h1
    refine ⟨decide (-4611686018427387903 ≤ n) && decide (n ≤ 4611686018427387903) && decide (s.toList = []), by simp [GoodC, nil_iff, OkN], ?_⟩
    by_cases hn1 : -4611686018427387903 ≤ n
    · by_cases hn2 : n ≤ 4611686018427387903
      · by_cases hl : s.toList = []
        all_goals
          have hl' : s.toList.isEmpty = decide (s.toList = []) := by cases s.toList <;> rfl
          simp only [hl, decide_true, decide_false] at hl'
          go_enter Tryz.func11, Tryz.ntmps11
          go_wp2
          go_ret
          exact ⟨by simp [hn1, hn2, hl], (Below.refl _ _).alloc (Nat.le_refl _) _⟩
      · go_enter Tryz.func11, Tryz.ntmps11
        go_wp2
        go_ret
        exact ⟨by have h : ¬ n ≤ 4611686018427387903 := by omega
                  rw [decide_eq_false h]; simp, (Below.refl _ _).alloc (Nat.le_refl _) _⟩
    · go_enter Tryz.func11, Tryz.ntmps11
      go_wp2
      go_ret
      exact ⟨by have h : ¬ -4611686018427387903 ≤ n := by omega
                rw [decide_eq_false h]; simp, (Below.refl _ _).alloc (Nat.le_refl _) _⟩
  by_cases h2 : k = 2
  · subst h2
    refine ⟨decide (n = 0), by simp [GoodC], ?_⟩
    by_cases hn : n = 0
    all_goals
      go_enter Tryz.func11, Tryz.ntmps11
      go_wp2
      go_ret
      exact ⟨by simp [hn], (Below.refl _ _).alloc (Nat.le_refl _) _⟩
  by_cases h3 : k = 3
  · subst h3
    have c1 := fun W => looks_any s W hs
    refine ⟨decide (looksL s.data.toList = (n, true)), by simp [GoodC], ?_⟩
    obtain ⟨v, hv⟩ : ∃ v, (looksL s.data.toList).1 = v := ⟨_, rfl⟩
    obtain ⟨b, hb⟩ : ∃ b, (looksL s.data.toList).2 = b := ⟨_, rfl⟩
    have he : looksL s.data.toList = (v, b) := by rw [← hv, ← hb]
    rw [hv, hb] at c1
    rw [he]
    have C1 := Lib.hid c1
    clear c1 he hv hb h0 h1 h2
    cases b
    · go_enter Tryz.func11, Tryz.ntmps11
      go_wp2_with fail
      refine (C1.out _).mono ?_
      rintro e w1 ⟨rfl, hb1⟩
      have HB1 := Lib.hid (below_new hb1)
      clear hb1
      go_wp2_with fail
      go_ret
      exact ⟨by simp, HB1.out⟩
    · by_cases hvn : v = n
      all_goals
        go_enter Tryz.func11, Tryz.ntmps11
        go_wp2_with fail
        refine (C1.out _).mono ?_
        rintro e w1 ⟨rfl, hb1⟩
        obtain ⟨hc, hf⟩ := bcell hb1
        have HB1 := Lib.hid (below_new hb1)
        clear hb1
        go_wp2_with fail
        go_ret
        exact ⟨by simp [hvn], HB1.out⟩
  · refine ⟨false, by simp [GoodC, h0, h1, h2, h3], ?_⟩
    go_enter Tryz.func11, Tryz.ntmps11
    go_wp2
    go_ret
    exact ⟨rfl, (Below.refl _ _).alloc (Nat.le_refl _) _⟩
def numC (k n : Int) (s : ByteArray) : Int := if k = 2 then (prefixL s.data.toList).1 else n
theorem cnum_any (k n : Int) (s : ByteArray) (w : World) (hs : s.size ≤ 1000000) :
    Calls Tryz.prog 28 #[cv k n s] w fun e w' => e = .returned (.int .i64 (numC k n s)) ∧ Below w.heap.size w w' := by
  unfold numC cv
  by_cases h2 : k = 2
  · subst h2
    have C1 := Lib.hid fun W => prefix_any s W hs
    go_enter Tryz.func28, Tryz.ntmps28
    go_wp2_with fail
    refine (C1.out _).mono ?_
    rintro e w1 ⟨rfl, hb1⟩
    have HB1 := Lib.hid (below_new hb1)
    clear hb1
    go_wp2_with fail
    go_ret
    exact ⟨rfl, HB1.out⟩
  · go_enter Tryz.func28, Tryz.ntmps28
    go_wp2_with fail
    go_ret
    exact ⟨ret_i (by simp), (Below.refl _ _).alloc (Nat.le_refl _) _⟩
/-- A value's text. -/
def strC (k n : Int) (s : ByteArray) : ByteArray := if k = 1 then ⟨(textL n).toArray⟩ else s
theorem ctext_any (k n : Int) (s : ByteArray) (w : World) (hn : k = 1 → OkN n) (G : Gl w) :
    Calls Tryz.prog 76 #[cv k n s] w fun e w' => e = .returned (.string (strC k n s)) ∧ Below w.heap.size w w' := by
  unfold strC cv
  by_cases h2 : k = 1
  · subst h2
    have C1 := Lib.hid fun W G => text_any n W (hn rfl) G
    have HG := Lib.hid G
    clear hn G
    go_enter Tryz.func76, Tryz.ntmps76
    go_wp2_with fail
    refine (C1.out _ (HG.out.next ((Below.refl _ _).alloc (Nat.le_refl _) _))).mono ?_
    rintro e w1 ⟨rfl, hb1⟩
    have HB1 := Lib.hid (below_new hb1)
    clear hb1
    go_wp2_with fail
    go_ret
    exact ⟨rfl, HB1.out⟩
  · clear hn
    go_enter Tryz.func76, Tryz.ntmps76
    go_wp2_with fail
    go_ret
    exact ⟨ret_s (by simp), (Below.refl _ _).alloc (Nat.le_refl _) _⟩
theorem strC_size (k n : Int) (s : ByteArray) (hs : s.size ≤ 100) (hn : k = 1 → OkN n) (ht : ∀ a, OkN a → (textL a).length ≤ 40) : (strC k n s).size ≤ 100 := by
  unfold strC
  split
  · rename_i h
    show (textL n).toArray.size ≤ 100
    have := ht n (hn h)
    simp; omega
  · exact hs
set_option maxHeartbeats 1000000 in
theorem cstr_any (k n : Int) (s : ByteArray) (w : World) (hn : k = 1 → OkN n) (hs : (strC k n s).size ≤ 1000000) (G : Gl w) :
    Calls Tryz.prog 50 #[cv k n s] w fun e w' => e = .returned (.string (strC k n s)) ∧ Below w.heap.size w w' := by
  have C1 := Lib.hid fun W G => ctext_any k n s W hn G
  have C2 := Lib.hid fun W => clone_any (strC k n s) W (by omega)
  have HG := Lib.hid G
  generalize strC k n s = t at *
  clear hn G
  unfold cv at C1 ⊢
  go_enter Tryz.func50, Tryz.ntmps50
  go_wp2_with fail
  refine (C1.out _ (HG.out.next ((Below.refl _ _).alloc (Nat.le_refl _) _))).mono ?_
  rintro e w1 ⟨rfl, hb1⟩
  have HB1 := Lib.hid (below_new hb1)
  clear hb1
  go_wp2_with fail
  refine (C2.out _).mono ?_
  rintro e w2 ⟨rfl, hb2⟩
  have HB2 := Lib.hid (HB1.out.trans (hb2.mono HB1.out.size))
  clear hb2 HB1
  go_wp2_with fail
  go_ret
  exact ⟨rfl, HB2.out⟩
def trueC (k n : Int) (s : ByteArray) : Bool := if k = 2 then !decide (s.toList = []) else !decide (n = 0)
end Go.Proofs.YtipcanbeegladaaGreatDoor
