/-
  MATHEMATICS of layer 11: the tokens of a text with a byte 10, or with blanks and a comment, behind it.
-/
import Derived.Test.YtfmjajmdkndknaaLxRise
namespace Go.Proofs.Ytfmjajmdkndknaa

/-- The byte that stands behind. -/
def Cut10 (c : UInt8) (l : List UInt8) : Prop := c = 32 ∨ (c = 10 ∧ l.getLast? ≠ some 92)
theorem Cut10.ne {c : UInt8} {l : List UInt8} (h : Cut10 c l) : c = 32 ∨ c = 10 := h.imp id And.left
theorem Cut10.tail {c e : UInt8} {t : List UInt8} (h : Cut10 c (e :: t)) : Cut10 c t := by
  rcases h with h | ⟨h, h2⟩
  · exact .inl h
  · refine .inr ⟨h, fun e2 => h2 ?_⟩
    cases t with
    | nil => cases e2
    | cons d t => rw [List.getLast?_cons_cons]; exact e2
theorem Cut10.drop {c : UInt8} : ∀ {l : List UInt8} (k : Nat), Cut10 c l → Cut10 c (l.drop k)
  | _, 0, h => h
  | [], _ + 1, h => h
  | _ :: _, k + 1, h => h.tail.drop k
theorem tw_app {p : UInt8 → Bool} {c : UInt8} {y : List UInt8} (hc : p c = false) : ∀ m : List UInt8, ((m ++ c :: y).takeWhile p) = m.takeWhile p
  | [] => by rw [List.nil_append, List.takeWhile_cons, if_neg (by rw [hc]; simp)]; rfl
  | e :: m => by
    rw [List.cons_append, List.takeWhile_cons, List.takeWhile_cons, tw_app hc m]
theorem tw_lt {p : UInt8 → Bool} {x : List UInt8} : ∀ m : List UInt8, (m.takeWhile p).length < m.length → ((m ++ x).takeWhile p) = m.takeWhile p
  | [], h => by simp at h
  | e :: m, h => by
    rw [List.cons_append, List.takeWhile_cons, List.takeWhile_cons]
    rw [List.takeWhile_cons] at h
    split
    · rename_i hp
      rw [if_pos hp] at h
      rw [tw_lt m (by simpa using h)]
    · rfl
theorem blank_app {c : UInt8} {y : List UInt8} : ∀ l : List UInt8, Cut10 c l → blankL l < l.length → blankL (l ++ c :: y) = blankL l
  | [], _, h => by simp at h
  | [e], hc, h => by
    rw [List.singleton_append, blank_cons e (c :: y), blank_cons e []]
    rw [blank_cons] at h
    split
    · rename_i h1; rw [if_pos h1] at h; simp at h
    · rename_i h1
      rw [if_neg h1] at h
      split
      · rename_i h2
        rcases hc with rfl | ⟨rfl, h3⟩
        · simp
        · exact absurd (by rw [h2]; rfl) h3
      · rename_i h2
        rw [if_neg h2] at h
        split
        · rename_i h3; rw [if_pos h3] at h; simp at h
        · rfl
  | e :: d :: t, hc, h => by
    rw [List.cons_append, blank_cons, blank_cons]
    rw [blank_cons] at h
    by_cases h1 : e = 32 ∨ e = 9 ∨ e = 13
    · rw [if_pos h1] at h
      rw [if_pos h1, if_pos h1, blank_app (d :: t) hc.tail (by simp only [List.length_cons] at h ⊢; omega)]
    · rw [if_neg h1] at h
      rw [if_neg h1, if_neg h1]
      by_cases h2 : e = 92
      · rw [if_pos h2] at h
        rw [if_pos h2, if_pos h2]
        simp only [List.cons_append]
        simp only [] at h
        by_cases h3 : d = 10
        · rw [if_pos h3] at h
          rw [if_pos h3, if_pos h3, blank_app t hc.tail.tail (by simp only [List.length_cons] at h; omega)]
        · rw [if_neg h3, if_neg h3]
      · rw [if_neg h2] at h
        rw [if_neg h2, if_neg h2]
        by_cases h3 : e = 35
        · rw [if_pos h3] at h
          rw [if_pos h3, if_pos h3]
          have h4 : cmtL (d :: t) < (d :: t).length := by simp only [List.length_cons] at h ⊢; omega
          unfold cmtL at h4 ⊢
          rw [tw_lt _ h4]
        · rw [if_neg h3, if_neg h3]
/-- All of it blank: so it is ahead of a byte 10. -/
theorem blank_all10 {y : List UInt8} : ∀ l : List UInt8, Cut10 10 l → blankL l = l.length → blankL (l ++ 10 :: y) = l.length
  | [], _, _ => by rw [List.nil_append, blank_cons]; simp
  | [e], hc, h => by
    rw [List.singleton_append, blank_cons]
    rw [blank_cons] at h
    by_cases h1 : e = 32 ∨ e = 9 ∨ e = 13
    · rw [if_pos h1, blank_cons]; simp
    · rw [if_neg h1] at h ⊢
      by_cases h2 : e = 92
      · rw [if_pos h2] at h; simp at h
      · rw [if_neg h2] at h ⊢
        by_cases h3 : e = 35
        · rw [if_pos h3]; simp [cmtL]
        · rw [if_neg h3] at h; simp at h
  | e :: d :: t, hc, h => by
    rw [List.cons_append, blank_cons]
    rw [blank_cons] at h
    by_cases h1 : e = 32 ∨ e = 9 ∨ e = 13
    · rw [if_pos h1] at h ⊢
      rw [blank_all10 (d :: t) hc.tail (by simp only [List.length_cons] at h ⊢; omega)]
      simp only [List.length_cons]; omega
    · rw [if_neg h1] at h ⊢
      by_cases h2 : e = 92
      · rw [if_pos h2] at h ⊢
        simp only [List.cons_append]
        simp only [] at h
        by_cases h3 : d = 10
        · rw [if_pos h3] at h ⊢
          rw [blank_all10 t hc.tail.tail (by simp only [List.length_cons] at h; omega)]
          simp only [List.length_cons]; omega
        · rw [if_neg h3] at h; simp at h
      · rw [if_neg h2] at h ⊢
        by_cases h3 : e = 35
        · rw [if_pos h3] at h ⊢
          rw [← h]; unfold cmtL
          rw [tw_app (by decide)]
        · rw [if_neg h3] at h; simp at h
/-- .. and ahead of what is all blank. -/
theorem blank_allx {x : List UInt8} (hx : blankL x = x.length) (h10 : (10 : UInt8) ∉ x) : ∀ l : List UInt8, blankL l = l.length → blankL (l ++ x) = l.length + x.length
  | [], _ => by rw [List.nil_append, hx]; simp
  | [e], h => by
    rw [List.singleton_append, blank_cons]
    rw [blank_cons] at h
    by_cases h1 : e = 32 ∨ e = 9 ∨ e = 13
    · rw [if_pos h1, hx]; simp
    · rw [if_neg h1] at h ⊢
      by_cases h2 : e = 92
      · rw [if_pos h2] at h; simp at h
      · rw [if_neg h2] at h ⊢
        by_cases h3 : e = 35
        · rw [if_pos h3]; simp only [List.length_cons, List.length_nil]
          rw [cmt_whole x h10]
        · rw [if_neg h3] at h; simp at h
  | e :: d :: t, h => by
    rw [List.cons_append, blank_cons]
    rw [blank_cons] at h
    by_cases h1 : e = 32 ∨ e = 9 ∨ e = 13
    · rw [if_pos h1] at h ⊢
      rw [blank_allx hx h10 (d :: t) (by simp only [List.length_cons] at h ⊢; omega)]
      simp only [List.length_cons]; omega
    · rw [if_neg h1] at h ⊢
      by_cases h2 : e = 92
      · rw [if_pos h2] at h ⊢
        simp only [List.cons_append]
        simp only [] at h
        by_cases h3 : d = 10
        · rw [if_pos h3] at h ⊢
          rw [blank_allx hx h10 t (by simp only [List.length_cons] at h; omega)]
          simp only [List.length_cons]; omega
        · rw [if_neg h3] at h; simp at h
      · rw [if_neg h2] at h ⊢
        by_cases h3 : e = 35
        · rw [if_pos h3] at h ⊢
          have h4 : cmtL (d :: t) = (d :: t).length := by simp only [List.length_cons] at h ⊢; omega
          have h5 := cmt_no10 _ h4
          rw [cmt_whole (d :: t ++ x) (by rw [List.mem_append]; rintro (h | h); exact h5 h; exact h10 h)]
          simp only [List.length_append, List.length_cons]; omega
        · rw [if_neg h3] at h; simp at h
where
  cmt_whole : ∀ l : List UInt8, (10 : UInt8) ∉ l → cmtL l = l.length
  | [], _ => rfl
  | b :: l, h => by
    have hb : (b != 10) = true := by
      rw [bne_iff_ne]; rintro rfl; exact h (List.mem_cons_self ..)
    have ih := cmt_whole l (fun hl => h (List.mem_cons_of_mem _ hl))
    unfold cmtL at ih ⊢
    rw [List.takeWhile_cons, if_pos hb, List.length_cons, ih, List.length_cons]
  cmt_no10 : ∀ l : List UInt8, cmtL l = l.length → (10 : UInt8) ∉ l
  | [], _ => by simp
  | b :: l, h => by
    unfold cmtL at h
    rw [List.takeWhile_cons] at h
    split at h
    · rename_i hb
      have := cmt_no10 l (by unfold cmtL; simpa using h)
      have hb' : ¬ b = 10 := by simpa using hb
      intro hm
      rcases List.mem_cons.1 hm with e | e
      · exact hb' e.symm
      · exact this e
    · simp at h
theorem isNm_cut {c : UInt8} (h : c = 32 ∨ c = 10) : isNm c = false ∧ isDg c = false ∧ ¬ c = 46 ∧ ¬ c = 40 := by
  rcases h with rfl | rfl <;> decide
theorem dig_app {c : UInt8} {y : List UInt8} (h : c = 32 ∨ c = 10) (m : List UInt8) : digL (m ++ c :: y) = digL m := by
  unfold digL; rw [tw_app (isNm_cut h).2.1]
theorem nm_app {c : UInt8} {y : List UInt8} (h : c = 32 ∨ c = 10) (m : List UInt8) : nmL (m ++ c :: y) = nmL m := by
  unfold nmL; rw [tw_app (isNm_cut h).1]
theorem num_app {c : UInt8} {y : List UInt8} (h : c = 32 ∨ c = 10) (m : List UInt8) : numL (m ++ c :: y) = numL m := by
  unfold numL
  rw [dig_app h, List.drop_append_of_le_length (dig_le m)]
  cases hd : m.drop (digL m) with
  | nil => rw [List.nil_append, numT_cons, if_neg (isNm_cut h).2.2.1]; rfl
  | cons e t => rw [List.cons_append, numT_cons, numT_cons, dig_app h]
theorem sign_app {c : UInt8} {y : List UInt8} (h : c = 32 ∨ c = 10) : ∀ m : List UInt8, m ≠ [] → signL (m ++ c :: y) = signL m
  | [], h0 => absurd rfl h0
  | [e], _ => by
    have h1 : ¬ ([e] ++ c :: y).take 2 ∈ signsL := by
      simp only [List.singleton_append, List.take_succ_cons, List.take_zero]
      intro hm
      have h2 : ∀ x ∈ signsL, ¬ x[1]? = some 32 ∧ ¬ x[1]? = some 10 := by decide
      have h3 := h2 _ hm
      rcases h with rfl | rfl
      · exact h3.1 rfl
      · exact h3.2 rfl
    have h2 : ¬ [e].take 2 ∈ signsL := by
      intro hm
      have h2 : ∀ x ∈ signsL, x.length = 2 := by decide
      have := h2 _ hm
      simp at this
    unfold signL
    rw [if_neg h1, if_neg h2]
    rfl
  | e :: d :: t, _ => by
    rfl
theorem kind_app {c : UInt8} {y : List UInt8} (h : c = 32 ∨ c = 10) (a b : List UInt8) : kindL a (b ++ c :: y) = kindL a b := by
  unfold kindL
  cases b with
  | nil => rw [List.nil_append, List.head?_cons, if_neg (show ¬ some c = some 40 from fun e => (isNm_cut h).2.2.2 (Option.some.inj e))]; rfl
  | cons d t => rfl
theorem qu_app {esc : UInt8 → List UInt8} {q : UInt8} {x : List UInt8} : ∀ (m : List UInt8) (t : List UInt8) (z : Nat), quL esc q m = .done t z → quL esc q (m ++ x) = .done t z
  | [], _, _, h => by unfold quL at h; cases h
  | [e], t, z, h => by
    rw [List.singleton_append]
    unfold quL at h ⊢
    split
    · rename_i h1; rw [if_pos h1] at h; exact h
    · rename_i h1; rw [if_neg h1] at h
      split at h
      · cases h
      · split at h
        · cases h
        · unfold quL at h; cases h
  | e :: d :: r, t, z, h => by
    rw [List.cons_append, List.cons_append]
    unfold quL at h ⊢
    by_cases h1 : e = q
    · rw [if_pos h1] at h ⊢; exact h
    · rw [if_neg h1] at h ⊢
      by_cases h2 : e = 92
      · rw [if_pos h2] at h ⊢
        simp only [] at h ⊢
        by_cases h3 : esc d = []
        · rw [if_pos h3] at h; cases h
        · rw [if_neg h3] at h ⊢
          cases hq : quL esc q r with
          | done t' z' => rw [qu_app r t' z' hq]; rw [hq] at h; exact h
          | opened => rw [hq] at h; cases h
          | wrong o => rw [hq] at h; cases h
      · rw [if_neg h2] at h ⊢
        by_cases h3 : e = 10
        · rw [if_pos h3] at h; cases h
        · rw [if_neg h3] at h ⊢
          cases hq : quL esc q (d :: r) with
          | done t' z' =>
            have := qu_app (x := x) (d :: r) t' z' hq
            rw [List.cons_append] at this
            rw [this]; rw [hq] at h; exact h
          | opened => rw [hq] at h; cases h
          | wrong o => rw [hq] at h; cases h
theorem step_app {c : UInt8} {y : List UInt8} (hc : c = 32 ∨ c = 10) {rx : Bool} {m : List UInt8} {k : Nat} {t : List UInt8} {z : Nat} (h : stepL rx m = .tok k t z) : stepL rx (m ++ c :: y) = .tok k t z := by
  cases m with
  | nil => cases h
  | cons e r =>
    have hn := num_app (y := y) hc (e :: r)
    have hs := sign_app (y := y) hc (e :: r) (by simp)
    have hm := nm_app (y := y) hc (e :: r)
    have hk := kind_app (y := y) hc
    rw [List.cons_append] at hn hs hm
    rw [step_cons] at h
    rw [List.cons_append, step_cons, hn, hs, hm]
    have ht : ∀ j, j ≤ (e :: r).length → (e :: (r ++ c :: y)).take j = (e :: r).take j := fun j hj => by rw [← List.cons_append, List.take_append_of_le_length hj]
    have hd : ∀ j, j ≤ (e :: r).length → (e :: (r ++ c :: y)).drop j = (e :: r).drop j ++ c :: y := fun j hj => by rw [← List.cons_append, List.drop_append_of_le_length hj]
    by_cases h1 : e = 10
    · rw [if_pos h1] at h ⊢; exact h
    rw [if_neg h1] at h ⊢
    by_cases h2 : e = 34
    · rw [if_pos h2] at h ⊢
      cases hq : quL strEsc 34 r with
      | done t' z' => rw [qu_app r t' z' hq]; rw [hq] at h; exact h
      | opened => rw [hq] at h; cases h
      | wrong o => rw [hq] at h; cases h
    rw [if_neg h2] at h ⊢
    by_cases h3 : e = 47 ∧ rx = true
    · rw [if_pos h3] at h ⊢
      cases hq : quL reEsc 47 r with
      | done t' z' => rw [qu_app r t' z' hq]; rw [hq] at h; exact h
      | opened => rw [hq] at h; cases h
      | wrong o => rw [hq] at h; cases h
    rw [if_neg h3] at h ⊢
    by_cases h4 : isLt e = true
    · rw [if_pos h4] at h ⊢
      rw [ht _ (nm_le _), hd _ (nm_le _), hk]; exact h
    rw [if_neg h4] at h ⊢
    by_cases h5 : 0 < numL (e :: r)
    · rw [if_pos h5] at h ⊢
      rw [ht _ (num_le _)]; exact h
    rw [if_neg h5] at h ⊢
    by_cases h6 : 0 < signL (e :: r)
    · rw [if_pos h6] at h ⊢
      rw [ht _ (sign_le _)]; exact h
    rw [if_neg h6] at h
    cases h
end Go.Proofs.Ytfmjajmdkndknaa
