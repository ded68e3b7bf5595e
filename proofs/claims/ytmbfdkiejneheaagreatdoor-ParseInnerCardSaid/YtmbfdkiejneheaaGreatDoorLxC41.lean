/-
 MATHEMATICS of layer 11: the tokens of a text with a ) behind it, or in ( and ).
-/
import Derived.Test.YtmbfdkiejneheaaGreatDoorPaQf
namespace Go.Proofs.YtmbfdkiejneheaaGreatDoor

theorem blank_app41 {c : UInt8} {y : List UInt8} : ∀ l : List UInt8, c = 41 → blankL l < l.length → blankL (l ++ c :: y) = blankL l
 | [], _, h => by simp at h
 | [e], hc, h => by
  rw [List.singleton_append, blank_cons e (c :: y), blank_cons e []]
  rw [blank_cons] at h
  split
  · rename_i h1; rw [if_pos h1] at h; simp at h
  ·
   rename_i h1
   rw [if_neg h1] at h
   split
   ·
    rename_i h2
    subst hc; simp
   ·
    rename_i h2
    rw [if_neg h2] at h
    split
    · rename_i h3; rw [if_pos h3] at h; simp at h
    · rfl
 | e :: d :: t, hc, h => by
  rw [List.cons_append, blank_cons, blank_cons]
  rw [blank_cons] at h
  by_cases h1 : e = 32 ∨ e = 9 ∨ e = 13
  ·
   rw [if_pos h1] at h
   rw [if_pos h1, if_pos h1, blank_app41 (d :: t) hc (by simp only [List.length_cons] at h ⊢; omega)]
  ·
   rw [if_neg h1] at h
   rw [if_neg h1, if_neg h1]
   by_cases h2 : e = 92
   ·
    rw [if_pos h2] at h
    rw [if_pos h2, if_pos h2]
    simp only [List.cons_append]
    simp only [] at h
    by_cases h3 : d = 10
    ·
     rw [if_pos h3] at h
     rw [if_pos h3, if_pos h3, blank_app41 t hc (by simp only [List.length_cons] at h; omega)]
    · rw [if_neg h3, if_neg h3]
   ·
    rw [if_neg h2] at h
    rw [if_neg h2, if_neg h2]
    by_cases h3 : e = 35
    ·
     rw [if_pos h3] at h
     rw [if_pos h3, if_pos h3]
     have h4 : cmtL (d :: t) < (d :: t).length := by simp only [List.length_cons] at h ⊢; omega
     unfold cmtL at h4 ⊢
     rw [tw_lt _ h4]
    · rw [if_neg h3, if_neg h3]
/-- All of it blank: so it is ahead of a byte 10. -/
theorem isNm_cut41 {c : UInt8} (h : c = 41) : isNm c = false ∧ isDg c = false ∧ ¬ c = 46 ∧ ¬ c = 40 := by
 subst h; decide
theorem dig_app41 {c : UInt8} {y : List UInt8} (h : c = 41) (m : List UInt8) : digL (m ++ c :: y) = digL m := by
 unfold digL; rw [tw_app (isNm_cut41 h).2.1]
theorem nm_app41 {c : UInt8} {y : List UInt8} (h : c = 41) (m : List UInt8) : nmL (m ++ c :: y) = nmL m := by
 unfold nmL; rw [tw_app (isNm_cut41 h).1]
theorem num_app41 {c : UInt8} {y : List UInt8} (h : c = 41) (m : List UInt8) : numL (m ++ c :: y) = numL m := by
 unfold numL
 rw [dig_app41 h, List.drop_append_of_le_length (dig_le m)]
 cases hd : m.drop (digL m) with
 | nil => rw [List.nil_append, numT_cons, if_neg (isNm_cut41 h).2.2.1]; rfl
 | cons e t => rw [List.cons_append, numT_cons, numT_cons, dig_app41 h]
theorem sign_app41 {c : UInt8} {y : List UInt8} (h : c = 41) : ∀ m : List UInt8, m ≠ [] → signL (m ++ c :: y) = signL m
 | [], h0 => absurd rfl h0
 | [e], _ => by
  have h1 : ¬ ([e] ++ c :: y).take 2 ∈ signsL := by
   simp only [List.singleton_append, List.take_succ_cons, List.take_zero]
   intro hm
   have h2 : ∀ x ∈ signsL, ¬ x[1]? = some 41 := by decide
   have h3 := h2 _ hm
   subst h
   exact h3 rfl
  have h2 : ¬ [e].take 2 ∈ signsL := by
   intro hm
   have h2 : ∀ x ∈ signsL, x.length = 2 := by decide
   have := h2 _ hm
   simp at this
  unfold signL
  rw [if_neg h1, if_neg h2]
  rfl
 | e :: d :: t, _ => by
  rfl
theorem kind_app41 {c : UInt8} {y : List UInt8} (h : c = 41) (a b : List UInt8) : kindL a (b ++ c :: y) = kindL a b := by
 unfold kindL
 cases b with
 | nil => rw [List.nil_append, List.head?_cons, if_neg (show ¬ some c = some 40 from fun e => (isNm_cut41 h).2.2.2 (Option.some.inj e))]; rfl
 | cons d t => rfl
theorem step_app41 {c : UInt8} {y : List UInt8} (hc : c = 41) {rx : Bool} {m : List UInt8} {k : Nat} {t : List UInt8} {z : Nat} (h : stepL rx m = .tok k t z) : stepL rx (m ++ c :: y) = .tok k t z := by
 cases m with
 | nil => cases h
 | cons e r =>
  have hn := num_app41 (y := y) hc (e :: r)
  have hs := sign_app41 (y := y) hc (e :: r) (by simp)
  have hm := nm_app41 (y := y) hc (e :: r)
  have hk := kind_app41 (y := y) hc
  rw [List.cons_append] at hn hs hm
  rw [step_cons] at h
  rw [List.cons_append, step_cons, hn, hs, hm]
  have ht : ∀ j, j ≤ (e :: r).length → (e :: (r ++ c :: y)).take j = (e :: r).take j := fun j hj => by rw [← List.cons_append, List.take_append_of_le_length hj]
  have hd : ∀ j, j ≤ (e :: r).length → (e :: (r ++ c :: y)).drop j = (e :: r).drop j ++ c :: y := fun j hj => by rw [← List.cons_append, List.drop_append_of_le_length hj]
  by_cases h1 : e = 10
  · rw [if_pos h1] at h ⊢; exact h
  rw [if_neg h1] at h ⊢
  by_cases h2 : e = 34
  ·
   rw [if_pos h2] at h ⊢
   cases hq : quL strEsc 34 r with
   | done t' z' => rw [qu_app r t' z' hq]; rw [hq] at h; exact h
   | opened => rw [hq] at h; cases h
   | wrong o => rw [hq] at h; cases h
  rw [if_neg h2] at h ⊢
  by_cases h3 : e = 47 ∧ rx = true
  ·
   rw [if_pos h3] at h ⊢
   cases hq : quL reEsc 47 r with
   | done t' z' => rw [qu_app r t' z' hq]; rw [hq] at h; exact h
   | opened => rw [hq] at h; cases h
   | wrong o => rw [hq] at h; cases h
  rw [if_neg h3] at h ⊢
  by_cases h4 : isLt e = true
  ·
   rw [if_pos h4] at h ⊢
   rw [ht _ (nm_le _), hd _ (nm_le _), hk]; exact h
  rw [if_neg h4] at h ⊢
  by_cases h5 : 0 < numL (e :: r)
  ·
   rw [if_pos h5] at h ⊢
   rw [ht _ (num_le _)]; exact h
  rw [if_neg h5] at h ⊢
  by_cases h6 : 0 < signL (e :: r)
  ·
   rw [if_pos h6] at h ⊢
   rw [ht _ (sign_le _)]; exact h
  rw [if_neg h6] at h
  cases h
/-- A text that is all blank, with no note. -/
theorem blank_all41 {y : List UInt8} : ∀ l : List UInt8, (35 : UInt8) ∉ l → blankL l = l.length → blankL (l ++ 41 :: y) = l.length
 | [], _, _ => by rw [List.nil_append, blank_cons]; simp
 | [e], h35, h => by
  rw [List.singleton_append, blank_cons]
  rw [blank_cons] at h
  by_cases h1 : e = 32 ∨ e = 9 ∨ e = 13
  · rw [if_pos h1, blank_cons]; simp
  ·
   rw [if_neg h1] at h ⊢
   by_cases h2 : e = 92
   · rw [if_pos h2] at h; simp at h
   ·
    rw [if_neg h2] at h ⊢
    by_cases h3 : e = 35
    · exact absurd (by simp [h3]) h35
    · rw [if_neg h3] at h; simp at h
 | e :: d :: t, h35, h => by
  have h35' : (35 : UInt8) ∉ d :: t := fun e2 => h35 (List.mem_cons_of_mem _ e2)
  rw [List.cons_append, blank_cons]
  rw [blank_cons] at h
  by_cases h1 : e = 32 ∨ e = 9 ∨ e = 13
  ·
   rw [if_pos h1] at h ⊢
   rw [blank_all41 (d :: t) h35' (by simp only [List.length_cons] at h ⊢; omega)]
   simp only [List.length_cons]; omega
  ·
   rw [if_neg h1] at h ⊢
   by_cases h2 : e = 92
   ·
    rw [if_pos h2] at h ⊢
    simp only [List.cons_append]
    simp only [] at h
    by_cases h3 : d = 10
    ·
     rw [if_pos h3] at h ⊢
     rw [blank_all41 t (fun e2 => h35' (List.mem_cons_of_mem _ e2)) (by simp only [List.length_cons] at h; omega)]
     simp only [List.length_cons]; omega
    · rw [if_neg h3] at h; simp at h
   ·
    rw [if_neg h2] at h ⊢
    by_cases h3 : e = 35
    · exact absurd (by simp [h3]) h35
    · rw [if_neg h3] at h; simp at h
theorem lexF_step_app41 {y : List UInt8} {rx : Bool} {p N : Nat} {l : List UInt8} {k : Nat} {t : List UInt8} {z : Nat} (hst : stepL rx (l.drop (blankL l)) = .tok k t z) (hN : (l ++ 41 :: y).length < N) :
  lexF N rx p (l ++ 41 :: y) = (lexF N (rxA k t) (p + blankL l + z) (l.drop (blankL l + z) ++ 41 :: y)).map (⟨k, t, p + blankL l⟩ :: ·) := by
 have h1 := (step_le rx _).1 _ _ _ hst
 have h2 : (l.drop (blankL l)).length = l.length - blankL l := List.length_drop
 have h3 := blank_le l
 have hb := blank_app41 (c := 41) (y := y) l rfl (by omega)
 have hd : (l ++ 41 :: y).drop (blankL (l ++ 41 :: y)) = l.drop (blankL l) ++ 41 :: y := by rw [hb, List.drop_append_of_le_length h3]
 have hs : stepL rx ((l ++ 41 :: y).drop (blankL (l ++ 41 :: y))) = .tok k t z := by rw [hd]; exact step_app41 rfl hst
 rw [lexF_tok hs hN, hb, List.drop_append_of_le_length (by omega)]
/-- A ) behind a text that has no note. -/
theorem lexF_41 : ∀ (n : Nat) (rx : Bool) (p : Nat) (l : List UInt8) (r : List Tok), lexF n rx p l = .ok r → l.length < n → (35 : UInt8) ∉ l → ∀ N, (l ++ [41]).length < N →
  lexF N rx p (l ++ [41]) = .ok (r ++ [⟨8, [41], p + l.length⟩])
 | 0, _, _, _, _, _, h, _, _, _ => by omega
 | n + 1, rx, p, l, r, h, hn, h35, N, hN => by
  have h3 := blank_le l
  have h2 : (l.drop (blankL l)).length = l.length - blankL l := List.length_drop
  unfold lexF at h
  cases hst : stepL rx (l.drop (blankL l)) with
  | bad o => rw [hst] at h; cases h
  | eof =>
   rw [hst] at h
   cases h
   have he := step_nil hst
   rw [he] at h2
   simp only [List.length_nil] at h2
   have hb := blank_all41 (y := []) l h35 (by omega)
   have hd : (l ++ [41]).drop (blankL (l ++ [41])) = [41] := by rw [hb, List.drop_left]
   have hs : stepL rx ((l ++ [41]).drop (blankL (l ++ [41]))) = .tok 8 [41] 1 := by rw [hd, step_cons]; cases rx <;> rfl
   have hz : (l ++ [(41 : UInt8)]).drop (l.length + 1) = [] := by simp
   rw [lexF_tok hs hN, hb, hz]
   rw [show lexF N (rxA 8 [41]) (p + l.length + 1) [] = .ok [] from lexF_eof rfl]
   rfl
  | tok k t z =>
   rw [hst] at h
   simp only [] at h
   have h1 := (step_le rx _).1 _ _ _ hst
   have h4 : (l.drop (blankL l + z)).length = l.length - (blankL l + z) := List.length_drop
   cases hx : lexF n (rxA k t) (p + blankL l + z) (l.drop (blankL l + z)) with
   | error e => rw [hx] at h; cases h
   | ok r' =>
    rw [hx] at h
    cases h
    rw [List.length_append, List.length_singleton] at hN
    have h5 := lexF_41 n _ _ _ _ hx (by omega) (fun e => h35 (List.mem_of_mem_drop e)) N (by rw [List.length_append, List.length_singleton]; omega)
    rw [lexF_step_app41 (y := []) hst (by rw [List.length_append, List.length_singleton]; omega), h5, h4,
     show p + blankL l + z + (l.length - (blankL l + z)) = p + l.length from by omega]
    rfl
/-- A text in ( and ). -/
theorem lex_in {s : List UInt8} {r : List Tok} (h : lexL s = .ok r) (h35 : (35 : UInt8) ∉ s) : lexL (40 :: (s ++ [41])) = .ok (⟨8, [40], 0⟩ :: (r.map (Tok.by 1) ++ [⟨8, [41], s.length + 1⟩])) := by
 have hb := lexF_41 _ _ _ _ _ h (Nat.lt_succ_self _) h35 ((40 :: (s ++ [41])).length + 1) (by simp only [List.length_cons]; omega)
 have h4 := lexF_by 1 _ _ _ _ _ hb
 unfold lexL
 have b1 : blankL (40 :: (s ++ [41])) = 0 := by rw [blank_cons, if_neg (by decide), if_neg (by decide), if_neg (by decide)]
 rw [lexF_tok (k := 8) (t := [40]) (z := 1) (by rw [b1]; rfl) (Nat.lt_succ_self _), b1]
 rw [show List.drop (0 + 1) (40 :: (s ++ [41])) = s ++ [41] from rfl, show rxA 8 [40] = true from rfl, h4, List.map_append]
 simp [Except.map, Tok.by]
end Go.Proofs.YtmbfdkiejneheaaGreatDoor
