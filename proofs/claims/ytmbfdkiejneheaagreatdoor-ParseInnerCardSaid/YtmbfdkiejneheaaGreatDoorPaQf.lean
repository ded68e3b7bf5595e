/-
 MATHEMATICS of layers 11 and 13: a text with something behind it; blanks around a program.
-/
import Derived.Test.YtmbfdkiejneheaaGreatDoorPaPf
import Derived.Test.YtmbfdkiejneheaaGreatDoorPaXI
namespace Go.Proofs.YtmbfdkiejneheaaGreatDoor

/-- The byte that stands behind. -/
def Cut10 (c : UInt8) (l : List UInt8) : Prop := c = 32 ∨ (c = 10 ∧ l.getLast? ≠ some 92)
theorem Cut10.ne {c : UInt8} {l : List UInt8} (h : Cut10 c l) : c = 32 ∨ c = 10 := h.imp id And.left
theorem Cut10.tail {c e : UInt8} {t : List UInt8} (h : Cut10 c (e :: t)) : Cut10 c t := by
 rcases h with h | ⟨h, h2⟩
 ·
  exact .inl h
 ·
  refine .inr ⟨h, fun e2 => h2 ?_⟩
  cases t with
  | nil => cases e2
  | cons d t => rw [List.getLast?_cons_cons]; exact e2
theorem Cut10.drop {c : UInt8} : ∀ {l : List UInt8} (k : Nat), Cut10 c l → Cut10 c (l.drop k)
 | _, 0, h => h
 | [], _ + 1, h => h
 | _ :: _, k + 1, h => h.tail.drop k
theorem tw_app {p : UInt8 → Bool} {c : UInt8} {y : List UInt8} (hc : p c = false) : ∀ m : List UInt8, ((m ++ c :: y).takeWhile p) = m.takeWhile p
 | [] => by rw [List.nil_append, List.takeWhile_cons, if_neg (by rw [hc]; simp)]; rfl
 | e :: m => by
  rw [List.cons_append, List.takeWhile_cons, List.takeWhile_cons, tw_app hc m]
theorem tw_lt {p : UInt8 → Bool} {x : List UInt8} : ∀ m : List UInt8, (m.takeWhile p).length < m.length → ((m ++ x).takeWhile p) = m.takeWhile p
 | [], h => by simp at h
 | e :: m, h => by
  rw [List.cons_append, List.takeWhile_cons, List.takeWhile_cons]
  rw [List.takeWhile_cons] at h
  split
  ·
   rename_i hp
   rw [if_pos hp] at h
   rw [tw_lt m (by simpa using h)]
  ·
   rfl
theorem blank_app {c : UInt8} {y : List UInt8} : ∀ l : List UInt8, Cut10 c l → blankL l < l.length → blankL (l ++ c :: y) = blankL l
 | [], _, h => by simp at h
 | [e], hc, h => by
  rw [List.singleton_append, blank_cons e (c :: y), blank_cons e []]
  rw [blank_cons] at h
  split
  ·
   rename_i h1; rw [if_pos h1] at h; simp at h
  ·
   rename_i h1
   rw [if_neg h1] at h
   split
   ·
    rename_i h2
    rcases hc with rfl | ⟨rfl, h3⟩
    ·
     simp
    ·
     exact absurd (by rw [h2]; rfl) h3
   ·
    rename_i h2
    rw [if_neg h2] at h
    split
    ·
     rename_i h3; rw [if_pos h3] at h; simp at h
    ·
     rfl
 | e :: d :: t, hc, h => by
  rw [List.cons_append, blank_cons, blank_cons]
  rw [blank_cons] at h
  by_cases h1 : e = 32 ∨ e = 9 ∨ e = 13
  ·
   rw [if_pos h1] at h
   rw [if_pos h1, if_pos h1, blank_app (d :: t) hc.tail (by simp only [List.length_cons] at h ⊢; omega)]
  ·
   rw [if_neg h1] at h
   rw [if_neg h1, if_neg h1]
   by_cases h2 : e = 92
   ·
    rw [if_pos h2] at h
    rw [if_pos h2, if_pos h2]
    simp only [List.cons_append]
    simp only [] at h
    by_cases h3 : d = 10
    ·
     rw [if_pos h3] at h
     rw [if_pos h3, if_pos h3, blank_app t hc.tail.tail (by simp only [List.length_cons] at h; omega)]
    ·
     rw [if_neg h3, if_neg h3]
   ·
    rw [if_neg h2] at h
    rw [if_neg h2, if_neg h2]
    by_cases h3 : e = 35
    ·
     rw [if_pos h3] at h
     rw [if_pos h3, if_pos h3]
     have h4 : cmtL (d :: t) < (d :: t).length := by simp only [List.length_cons] at h ⊢; omega
     unfold cmtL at h4 ⊢
     rw [tw_lt _ h4]
    ·
     rw [if_neg h3, if_neg h3]
/-- All of it blank: so it is ahead of a byte 10. -/
theorem blank_all10 {y : List UInt8} : ∀ l : List UInt8, Cut10 10 l → blankL l = l.length → blankL (l ++ 10 :: y) = l.length
 | [], _, _ => by rw [List.nil_append, blank_cons]; simp
 | [e], hc, h => by
  rw [List.singleton_append, blank_cons]
  rw [blank_cons] at h
  by_cases h1 : e = 32 ∨ e = 9 ∨ e = 13
  ·
   rw [if_pos h1, blank_cons]; simp
  ·
   rw [if_neg h1] at h ⊢
   by_cases h2 : e = 92
   ·
    rw [if_pos h2] at h; simp at h
   ·
    rw [if_neg h2] at h ⊢
    by_cases h3 : e = 35
    ·
     rw [if_pos h3]; simp [cmtL]
    ·
     rw [if_neg h3] at h; simp at h
 | e :: d :: t, hc, h => by
  rw [List.cons_append, blank_cons]
  rw [blank_cons] at h
  by_cases h1 : e = 32 ∨ e = 9 ∨ e = 13
  ·
   rw [if_pos h1] at h ⊢
   rw [blank_all10 (d :: t) hc.tail (by simp only [List.length_cons] at h ⊢; omega)]
   simp only [List.length_cons]; omega
  ·
   rw [if_neg h1] at h ⊢
   by_cases h2 : e = 92
   ·
    rw [if_pos h2] at h ⊢
    simp only [List.cons_append]
    simp only [] at h
    by_cases h3 : d = 10
    ·
     rw [if_pos h3] at h ⊢
     rw [blank_all10 t hc.tail.tail (by simp only [List.length_cons] at h; omega)]
     simp only [List.length_cons]; omega
    ·
     rw [if_neg h3] at h; simp at h
   ·
    rw [if_neg h2] at h ⊢
    by_cases h3 : e = 35
    ·
     rw [if_pos h3] at h ⊢
     rw [← h]; unfold cmtL
     rw [tw_app (by decide)]
    ·
     rw [if_neg h3] at h; simp at h
/-- .. and ahead of what is all blank. -/
theorem blank_allx {x : List UInt8} (hx : blankL x = x.length) (h10 : (10 : UInt8) ∉ x) : ∀ l : List UInt8, blankL l = l.length → blankL (l ++ x) = l.length + x.length
 | [], _ => by rw [List.nil_append, hx]; simp
 | [e], h => by
  rw [List.singleton_append, blank_cons]
  rw [blank_cons] at h
  by_cases h1 : e = 32 ∨ e = 9 ∨ e = 13
  ·
   rw [if_pos h1, hx]; simp
  ·
   rw [if_neg h1] at h ⊢
   by_cases h2 : e = 92
   ·
    rw [if_pos h2] at h; simp at h
   ·
    rw [if_neg h2] at h ⊢
    by_cases h3 : e = 35
    ·
     rw [if_pos h3]; simp only [List.length_cons, List.length_nil]
     rw [cmt_whole x h10]
    ·
     rw [if_neg h3] at h; simp at h
 | e :: d :: t, h => by
  rw [List.cons_append, blank_cons]
  rw [blank_cons] at h
  by_cases h1 : e = 32 ∨ e = 9 ∨ e = 13
  ·
   rw [if_pos h1] at h ⊢
   rw [blank_allx hx h10 (d :: t) (by simp only [List.length_cons] at h ⊢; omega)]
   simp only [List.length_cons]; omega
  ·
   rw [if_neg h1] at h ⊢
   by_cases h2 : e = 92
   ·
    rw [if_pos h2] at h ⊢
    simp only [List.cons_append]
    simp only [] at h
    by_cases h3 : d = 10
    ·
     rw [if_pos h3] at h ⊢
     rw [blank_allx hx h10 t (by simp only [List.length_cons] at h; omega)]
     simp only [List.length_cons]; omega
    ·
     rw [if_neg h3] at h; simp at h
   ·
    rw [if_neg h2] at h ⊢
    by_cases h3 : e = 35
    ·
     rw [if_pos h3] at h ⊢
     have h4 : cmtL (d :: t) = (d :: t).length := by simp only [List.length_cons] at h ⊢; omega
     have h5 := cmt_no10 _ h4
     rw [cmt_whole (d :: t ++ x) (by rw [List.mem_append]; rintro (h | h); exact h5 h; exact h10 h)]
     simp only [List.length_append, List.length_cons]; omega
    ·
     rw [if_neg h3] at h; simp at h
where
 cmt_whole : ∀ l : List UInt8, (10 : UInt8) ∉ l → cmtL l = l.length
 | [], _ => rfl
 | b :: l, h => by
  have hb : (b != 10) = true := by
   rw [bne_iff_ne]; rintro rfl; exact h (List.mem_cons_self ..)
  have ih := cmt_whole l (fun hl => h (List.mem_cons_of_mem _ hl))
  unfold cmtL at ih ⊢
  rw [List.takeWhile_cons, if_pos hb, List.length_cons, ih, List.length_cons]
 cmt_no10 : ∀ l : List UInt8, cmtL l = l.length → (10 : UInt8) ∉ l
 | [], _ => by simp
 | b :: l, h => by
  unfold cmtL at h
  rw [List.takeWhile_cons] at h
  split at h
  ·
   rename_i hb
   have := cmt_no10 l (by unfold cmtL; simpa using h)
   have hb' : ¬ b = 10 := by simpa using hb
   intro hm
   rcases List.mem_cons.1 hm with e | e
   ·
    exact hb' e.symm
   ·
    exact this e
  ·
   simp at h
theorem isNm_cut {c : UInt8} (h : c = 32 ∨ c = 10) : isNm c = false ∧ isDg c = false ∧ ¬ c = 46 ∧ ¬ c = 40 := by
 rcases h with rfl | rfl <;> decide
theorem dig_app {c : UInt8} {y : List UInt8} (h : c = 32 ∨ c = 10) (m : List UInt8) : digL (m ++ c :: y) = digL m := by
 unfold digL; rw [tw_app (isNm_cut h).2.1]
theorem nm_app {c : UInt8} {y : List UInt8} (h : c = 32 ∨ c = 10) (m : List UInt8) : nmL (m ++ c :: y) = nmL m := by
 unfold nmL; rw [tw_app (isNm_cut h).1]
theorem num_app {c : UInt8} {y : List UInt8} (h : c = 32 ∨ c = 10) (m : List UInt8) : numL (m ++ c :: y) = numL m := by
 unfold numL
 rw [dig_app h, List.drop_append_of_le_length (dig_le m)]
 cases hd : m.drop (digL m) with
 | nil => rw [List.nil_append, numT_cons, if_neg (isNm_cut h).2.2.1]; rfl
 | cons e t => rw [List.cons_append, numT_cons, numT_cons, dig_app h]
theorem sign_app {c : UInt8} {y : List UInt8} (h : c = 32 ∨ c = 10) : ∀ m : List UInt8, m ≠ [] → signL (m ++ c :: y) = signL m
 | [], h0 => absurd rfl h0
 | [e], _ => by
  have h1 : ¬ ([e] ++ c :: y).take 2 ∈ signsL := by
   simp only [List.singleton_append, List.take_succ_cons, List.take_zero]
   intro hm
   have h2 : ∀ x ∈ signsL, ¬ x[1]? = some 32 ∧ ¬ x[1]? = some 10 := by decide
   have h3 := h2 _ hm
   rcases h with rfl | rfl
   ·
    exact h3.1 rfl
   ·
    exact h3.2 rfl
  have h2 : ¬ [e].take 2 ∈ signsL := by
   intro hm
   have h2 : ∀ x ∈ signsL, x.length = 2 := by decide
   have := h2 _ hm
   simp at this
  unfold signL
  rw [if_neg h1, if_neg h2]
  rfl
 | e :: d :: t, _ => by
  rfl
theorem kind_app {c : UInt8} {y : List UInt8} (h : c = 32 ∨ c = 10) (a b : List UInt8) : kindL a (b ++ c :: y) = kindL a b := by
 unfold kindL
 cases b with
 | nil => rw [List.nil_append, List.head?_cons, if_neg (show ¬ some c = some 40 from fun e => (isNm_cut h).2.2.2 (Option.some.inj e))]; rfl
 | cons d t => rfl
theorem qu_app {esc : UInt8 → List UInt8} {q : UInt8} {x : List UInt8} : ∀ (m : List UInt8) (t : List UInt8) (z : Nat), quL esc q m = .done t z → quL esc q (m ++ x) = .done t z
 | [], _, _, h => by unfold quL at h; cases h
 | [e], t, z, h => by
  rw [List.singleton_append]
  unfold quL at h ⊢
  split
  ·
   rename_i h1; rw [if_pos h1] at h; exact h
  ·
   rename_i h1; rw [if_neg h1] at h
   split at h
   ·
    cases h
   ·
    split at h
    ·
     cases h
    ·
     unfold quL at h; cases h
 | e :: d :: r, t, z, h => by
  rw [List.cons_append, List.cons_append]
  unfold quL at h ⊢
  by_cases h1 : e = q
  ·
   rw [if_pos h1] at h ⊢; exact h
  ·
   rw [if_neg h1] at h ⊢
   by_cases h2 : e = 92
   ·
    rw [if_pos h2] at h ⊢
    simp only [] at h ⊢
    by_cases h3 : esc d = []
    ·
     rw [if_pos h3] at h; cases h
    ·
     rw [if_neg h3] at h ⊢
     cases hq : quL esc q r with
     | done t' z' => rw [qu_app r t' z' hq]; rw [hq] at h; exact h
     | opened => rw [hq] at h; cases h
     | wrong o => rw [hq] at h; cases h
   ·
    rw [if_neg h2] at h ⊢
    by_cases h3 : e = 10
    ·
     rw [if_pos h3] at h; cases h
    ·
     rw [if_neg h3] at h ⊢
     cases hq : quL esc q (d :: r) with
     | done t' z' =>
      have := qu_app (x := x) (d :: r) t' z' hq
      rw [List.cons_append] at this
      rw [this]; rw [hq] at h; exact h
     | opened => rw [hq] at h; cases h
     | wrong o => rw [hq] at h; cases h
theorem step_app {c : UInt8} {y : List UInt8} (hc : c = 32 ∨ c = 10) {rx : Bool} {m : List UInt8} {k : Nat} {t : List UInt8} {z : Nat} (h : stepL rx m = .tok k t z) : stepL rx (m ++ c :: y) = .tok k t z := by
 cases m with
 | nil => cases h
 | cons e r =>
  have hn := num_app (y := y) hc (e :: r)
  have hs := sign_app (y := y) hc (e :: r) (by simp)
  have hm := nm_app (y := y) hc (e :: r)
  have hk := kind_app (y := y) hc
  rw [List.cons_append] at hn hs hm
  rw [step_cons] at h
  rw [List.cons_append, step_cons, hn, hs, hm]
  have ht : ∀ j, j ≤ (e :: r).length → (e :: (r ++ c :: y)).take j = (e :: r).take j := fun j hj => by rw [← List.cons_append, List.take_append_of_le_length hj]
  have hd : ∀ j, j ≤ (e :: r).length → (e :: (r ++ c :: y)).drop j = (e :: r).drop j ++ c :: y := fun j hj => by rw [← List.cons_append, List.drop_append_of_le_length hj]
  by_cases h1 : e = 10
  ·
   rw [if_pos h1] at h ⊢; exact h
  rw [if_neg h1] at h ⊢
  by_cases h2 : e = 34
  ·
   rw [if_pos h2] at h ⊢
   cases hq : quL strEsc 34 r with
   | done t' z' => rw [qu_app r t' z' hq]; rw [hq] at h; exact h
   | opened => rw [hq] at h; cases h
   | wrong o => rw [hq] at h; cases h
  rw [if_neg h2] at h ⊢
  by_cases h3 : e = 47 ∧ rx = true
  ·
   rw [if_pos h3] at h ⊢
   cases hq : quL reEsc 47 r with
   | done t' z' => rw [qu_app r t' z' hq]; rw [hq] at h; exact h
   | opened => rw [hq] at h; cases h
   | wrong o => rw [hq] at h; cases h
  rw [if_neg h3] at h ⊢
  by_cases h4 : isLt e = true
  ·
   rw [if_pos h4] at h ⊢
   rw [ht _ (nm_le _), hd _ (nm_le _), hk]; exact h
  rw [if_neg h4] at h ⊢
  by_cases h5 : 0 < numL (e :: r)
  ·
   rw [if_pos h5] at h ⊢
   rw [ht _ (num_le _)]; exact h
  rw [if_neg h5] at h ⊢
  by_cases h6 : 0 < signL (e :: r)
  ·
   rw [if_pos h6] at h ⊢
   rw [ht _ (sign_le _)]; exact h
  rw [if_neg h6] at h
  cases h
end Go.Proofs.YtmbfdkiejneheaaGreatDoor

namespace Go.Proofs.YtmbfdkiejneheaaGreatDoor

theorem step_nil {rx : Bool} {l : List UInt8} (h : stepL rx l = .eof) : l = [] := by
 cases l with
 | nil => rfl
 | cons c t =>
  exfalso
  rw [step_cons] at h
  have hq : ∀ k q, St.ofQ k q ≠ .eof := fun k q => by cases q <;> intro e <;> cases e
  split at h
  ·
   cases h
  split at h
  ·
   exact hq _ _ h
  split at h
  ·
   exact hq _ _ h
  split at h
  ·
   cases h
  split at h
  ·
   cases h
  split at h <;> cases h
theorem except_map_map {f g : List Tok → List Tok} (x : Except Nat (List Tok)) : (x.map f).map g = x.map (fun r => g (f r)) := by cases x <;> rfl
/-- What a step of a text with more behind it is. -/
theorem lexF_step_app {c : UInt8} {y : List UInt8} {rx : Bool} {p N : Nat} {l : List UInt8} {k : Nat} {t : List UInt8} {z : Nat} (hc : Cut10 c l) (hst : stepL rx (l.drop (blankL l)) = .tok k t z) (hN : (l ++ c :: y).length < N) :
  lexF N rx p (l ++ c :: y) = (lexF N (rxA k t) (p + blankL l + z) (l.drop (blankL l + z) ++ c :: y)).map (⟨k, t, p + blankL l⟩ :: ·) := by
 have h1 := (step_le rx _).1 _ _ _ hst
 have h2 : (l.drop (blankL l)).length = l.length - blankL l := List.length_drop
 have h3 := blank_le l
 have hb := blank_app (y := y) l hc (by omega)
 have hd : (l ++ c :: y).drop (blankL (l ++ c :: y)) = l.drop (blankL l) ++ c :: y := by rw [hb, List.drop_append_of_le_length h3]
 have hs : stepL rx ((l ++ c :: y).drop (blankL (l ++ c :: y))) = .tok k t z := by rw [hd]; exact step_app hc.ne hst
 rw [lexF_tok hs hN, hb, List.drop_append_of_le_length (by omega)]
theorem lexF_10 (b : List UInt8) : ∀ (n : Nat) (rx : Bool) (p : Nat) (l : List UInt8) (r : List Tok), lexF n rx p l = .ok r → l.length < n → Cut10 10 l → ∀ N, (l ++ 10 :: b).length < N →
  lexF N rx p (l ++ 10 :: b) = (lexF N true (p + l.length + 1) b).map (fun q => r ++ ⟨1, [], p + l.length⟩ :: q)
 | 0, _, _, _, _, _, h, _, _, _ => by omega
 | n + 1, rx, p, l, r, h, hn, hc, N, hN => by
  have h3 := blank_le l
  have h2 : (l.drop (blankL l)).length = l.length - blankL l := List.length_drop
  unfold lexF at h
  cases hst : stepL rx (l.drop (blankL l)) with
  | bad o => rw [hst] at h; cases h
  | eof =>
   rw [hst] at h
   cases h
   have he := step_nil hst
   rw [he] at h2
   simp only [List.length_nil] at h2
   have hb := blank_all10 (y := b) l hc (by omega)
   have hd : (l ++ 10 :: b).drop (blankL (l ++ 10 :: b)) = 10 :: b := by rw [hb, List.drop_left]
   have hs : stepL rx ((l ++ 10 :: b).drop (blankL (l ++ 10 :: b))) = .tok 1 [] 1 := by rw [hd, step_cons, if_pos rfl]
   rw [lexF_tok hs hN, hb, show (l ++ 10 :: b).drop (l.length + 1) = b from by rw [← List.drop_drop, List.drop_left]; rfl]
   rfl
  | tok k t z =>
   rw [hst] at h
   simp only [] at h
   have h1 := (step_le rx _).1 _ _ _ hst
   have h4 : (l.drop (blankL l + z)).length = l.length - (blankL l + z) := List.length_drop
   cases hx : lexF n (rxA k t) (p + blankL l + z) (l.drop (blankL l + z)) with
   | error e => rw [hx] at h; cases h
   | ok r' =>
    rw [hx] at h
    cases h
    rw [List.length_append, List.length_cons] at hN
    rw [lexF_step_app hc hst (by rw [List.length_append, List.length_cons]; omega),
     lexF_10 b n _ _ _ _ hx (by omega) (hc.drop _) N (by rw [List.length_append, List.length_cons]; omega), except_map_map, h4,
     show p + blankL l + z + (l.length - (blankL l + z)) = p + l.length from by omega]
    rfl
theorem lexF_x {c : UInt8} {y : List UInt8} (hx : blankL (c :: y) = (c :: y).length) (h10 : (10 : UInt8) ∉ c :: y) (hc : c = 32) : ∀ (n : Nat) (rx : Bool) (p : Nat) (l : List UInt8) (r : List Tok), lexF n rx p l = .ok r → l.length < n → ∀ N, (l ++ c :: y).length < N →
  lexF N rx p (l ++ c :: y) = .ok r
 | 0, _, _, _, _, _, h, _, _ => by omega
 | n + 1, rx, p, l, r, h, hn, N, hN => by
  have h3 := blank_le l
  have h2 : (l.drop (blankL l)).length = l.length - blankL l := List.length_drop
  unfold lexF at h
  cases hst : stepL rx (l.drop (blankL l)) with
  | bad o => rw [hst] at h; cases h
  | eof =>
   rw [hst] at h
   cases h
   have he := step_nil hst
   rw [he] at h2
   simp only [List.length_nil] at h2
   have hb := blank_allx hx h10 l (by omega)
   have hd : (l ++ c :: y).drop (blankL (l ++ c :: y)) = [] := List.drop_eq_nil_of_le (by rw [hb, List.length_append]; exact Nat.le_refl _)
   rw [lexF_eof (by rw [hd]; rfl)]
  | tok k t z =>
   rw [hst] at h
   simp only [] at h
   have h1 := (step_le rx _).1 _ _ _ hst
   have h4 : (l.drop (blankL l + z)).length = l.length - (blankL l + z) := List.length_drop
   cases hx' : lexF n (rxA k t) (p + blankL l + z) (l.drop (blankL l + z)) with
   | error e => rw [hx'] at h; cases h
   | ok r' =>
    rw [hx'] at h
    cases h
    rw [List.length_append, List.length_cons] at hN
    rw [lexF_step_app (.inl hc) hst (by rw [List.length_append, List.length_cons]; omega),
     lexF_x hx h10 hc n _ _ _ _ hx' (by omega) N (by rw [List.length_append, List.length_cons]; omega)]
    rfl
def Tok.by (d : Nat) (t : Tok) : Tok := ⟨t.k, t.t, t.a + d⟩
theorem lexF_by (d : Nat) : ∀ (n : Nat) (rx : Bool) (p : Nat) (l : List UInt8) (r : List Tok), lexF n rx p l = .ok r → lexF n rx (p + d) l = .ok (r.map (Tok.by d))
 | 0, _, _, _, _, h => by cases h; rfl
 | n + 1, rx, p, l, r, h => by
  unfold lexF at h ⊢
  cases hst : stepL rx (l.drop (blankL l)) with
  | bad o => rw [hst] at h; cases h
  | eof => rw [hst] at h; cases h; rfl
  | tok k t z =>
   rw [hst] at h
   simp only [] at h ⊢
   cases hx : lexF n (rxA k t) (p + blankL l + z) (l.drop (blankL l + z)) with
   | error e => rw [hx] at h; cases h
   | ok r' =>
    rw [hx] at h
    cases h
    rw [show p + d + blankL l + z = p + blankL l + z + d from by omega, lexF_by d n _ _ _ _ hx, show p + d + blankL l = p + blankL l + d from by omega]
    rfl
/-- P11.3. -/
theorem lex_lines {a b : List UInt8} {ra rb : List Tok} (ha : lexL a = .ok ra) (hb : lexL b = .ok rb) (h92 : a.getLast? ≠ some 92) :
  lexL (a ++ 10 :: b) = .ok (ra ++ ⟨1, [], a.length⟩ :: rb.map (Tok.by (a.length + 1))) := by
 unfold lexL at ha hb ⊢
 rw [lexF_10 b _ _ _ _ _ ha (Nat.lt_succ_self _) (.inr ⟨rfl, h92⟩) _ (Nat.lt_succ_self _)]
 have h := lexF_by (a.length + 1) _ _ _ _ _ hb
 rw [lexF_more (b.length + 1) ((a ++ 10 :: b).length + 1) _ _ _ (by omega) (by rw [List.length_append, List.length_cons]; omega)] at h
 rw [show 0 + a.length + 1 = 0 + (a.length + 1) from by omega, h]
 simp [Except.map]
/-- P11.2. -/
theorem lex_blanks {a note : List UInt8} {ra : List Tok} (ha : lexL a = .ok ra) (h10 : (10 : UInt8) ∉ note) : lexL (a ++ 32 :: 9 :: 35 :: note) = .ok ra := by
 unfold lexL at ha ⊢
 refine lexF_x ?_ ?_ rfl _ _ _ _ _ ha (Nat.lt_succ_self _) _ (Nat.lt_succ_self _)
 ·
  rw [blank_cons, if_pos (.inl rfl), blank_cons, if_pos (.inr (.inl rfl)), blank_cons, if_neg (by decide), if_neg (by decide), if_pos rfl, blank_allx.cmt_whole note h10]
  simp only [List.length_cons]; omega
 ·
  simp [h10]
end Go.Proofs.YtmbfdkiejneheaaGreatDoor

namespace Go.Proofs.YtmbfdkiejneheaaGreatDoor
/-- Two programs alike but for places are read alike. -/
theorem prog_alike {reOk : List UInt8 → Bool} {l m : List Tok} (h : l.map fk = m.map fk) {t : PT} {l2 : List Tok} (ht : progP reOk l = .ok (t, l2)) : ∃ u m2, progP reOk m = .ok (u, m2) ∧ fl u = fl t ∧ m2.map fk = l2.map fk := by
 have h1 := prog_m reOk l
 have h2 := prog_m reOk m
 rw [h, h2, ht, mp_ok] at h1
 cases hx : progP reOk m with
 | error e => rw [hx] at h1; cases h1
 | ok x =>
  obtain ⟨u, m2⟩ := x
  rw [hx, mp_ok] at h1
  injection h1 with h1
  injection h1 with h3 h4
  exact ⟨u, m2, rfl, h3, h4⟩
theorem fk_by (d : Nat) (l : List Tok) : (l.map (Tok.by d)).map fk = l.map fk := by rw [List.map_map]; rfl
/-- What separates items and stands ahead of them all. -/
theorem prog_seps {reOk : List UInt8 → Bool} {l : List Tok} (hl : Tl l) : ∀ (ss : List Tok), (∀ x ∈ ss, sepB x = true) → progP reOk (ss ++ l) = progP reOk l := fun ss hs => by
 have hd : sepsP (ss ++ l) = sepsP l := by
  induction ss with
  | nil => rfl
  | cons a ss ih =>
   show List.dropWhile sepB (a :: (ss ++ l)) = _
   rw [List.dropWhile_cons, if_pos (hs a (by simp))]
   exact ih (fun x hx => hs x (by simp [hx]))
 unfold progP
 rw [items_more reOk (l.length + 1) ((ss ++ l).length + 1) l [] (by omega) (by rw [List.length_append]; omega) hl]
 unfold itemsL
 rw [hd]
/-- ; and blanks ahead of a text, blanks and a note behind it. -/
theorem lex_spaced {s note : List UInt8} {r : List Tok} (h : lexL s = .ok r) (h10 : (10 : UInt8) ∉ note) :
  lexL (59 :: 10 :: 32 :: 59 :: (s ++ 32 :: 9 :: 35 :: note)) = .ok (⟨8, [59], 0⟩ :: ⟨1, [], 1⟩ :: ⟨8, [59], 3⟩ :: r.map (Tok.by 4)) := by
 have hb := lex_blanks h h10
 generalize s ++ 32 :: 9 :: 35 :: note = x at *
 have h4 := lexF_by 4 _ _ _ _ _ hb
 rw [lexF_more _ ((59 :: 10 :: 32 :: 59 :: x).length + 1) _ _ _ (Nat.lt_succ_self _) (by simp only [List.length_cons]; omega)] at h4
 unfold lexL
 have b1 : blankL (59 :: 10 :: 32 :: 59 :: x) = 0 := by rw [blank_cons, if_neg (by decide), if_neg (by decide), if_neg (by decide)]
 have b2 : blankL (10 :: 32 :: 59 :: x) = 0 := by rw [blank_cons, if_neg (by decide), if_neg (by decide), if_neg (by decide)]
 have b3 : blankL (32 :: 59 :: x) = 1 := by rw [blank_cons, if_pos (by decide), blank_cons, if_neg (by decide), if_neg (by decide), if_neg (by decide)]
 have s1 : ∀ y, stepL true (59 :: y) = .tok 8 [59] 1 := fun y => by rw [step_cons]; rfl
 rw [lexF_tok (k := 8) (t := [59]) (z := 1) (by rw [b1]; exact s1 _) (Nat.lt_succ_self _), b1]
 rw [show List.drop (0 + 1) (59 :: 10 :: 32 :: 59 :: x) = 10 :: 32 :: 59 :: x from rfl]
 rw [lexF_tok (k := 1) (t := []) (z := 1) (by rw [b2]; rfl) (by simp only [List.length_cons]; omega), b2]
 rw [show List.drop (0 + 1) (10 :: 32 :: 59 :: x) = 32 :: 59 :: x from rfl]
 rw [lexF_tok (k := 8) (t := [59]) (z := 1) (by rw [b3]; exact s1 _) (by simp only [List.length_cons]; omega), b3]
 rw [show List.drop (1 + 1) (32 :: 59 :: x) = x from rfl]
 rw [show rxA 8 [59] = true from rfl, h4]
 rfl
/-- P13.2. -/
theorem parse_spaced {reOk : List UInt8 → Bool} {s note : List UInt8} {t : PT} (h : parseW reOk s = .ok t) (h10 : (10 : UInt8) ∉ note) : ∃ u, parseW reOk (59 :: 10 :: 32 :: 59 :: (s ++ 32 :: 9 :: 35 :: note)) = .ok u ∧ fl u = fl t := by
 obtain ⟨l, l2, hl, hp⟩ := parseW_ok h
 have hx := lex_spaced hl h10
 generalize (59 :: 10 :: 32 :: 59 :: (s ++ 32 :: 9 :: 35 :: note)) = x at *
 have ht := lex_tl hx x.length
 have htl : Tl (l.map (Tok.by 4) ++ [⟨0, [], x.length⟩]) := ht.suf ⟨[⟨8, [59], 0⟩, ⟨1, [], 1⟩, ⟨8, [59], 3⟩], rfl⟩ (by simp)
 obtain ⟨u, m2, hu, h1, _⟩ := prog_alike (m := l.map (Tok.by 4) ++ [⟨0, [], x.length⟩]) (by rw [List.map_append, List.map_append, fk_by]; rfl) hp
 refine ⟨u, parseW_of hx (l2 := m2) ?_, h1⟩
 rw [← prog_seps htl [⟨8, [59], 0⟩, ⟨1, [], 1⟩, ⟨8, [59], 3⟩] (by simp [sepB])] at hu
 exact hu
end Go.Proofs.YtmbfdkiejneheaaGreatDoor
