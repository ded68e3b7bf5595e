/-
 CONTRACT of layer 13's Parse: any text of at most 4000 bytes.
-/
import Derived.Test.YtmbfdkiejneheaaGreatDoorLxM
import Derived.Test.YtmbfdkiejneheaaGreatDoorPaP
import Derived.Test.YtmbfdkiejneheaaGreatDoorLxW2
namespace Go.Proofs.YtmbfdkiejneheaaGreatDoor

theorem kind_pos (a b : List UInt8) : kindL a b ≠ 0 := by
 unfold kindL
 split
 ·
  decide
 ·
  split
  ·
   decide
  ·
   split
   ·
    decide
   ·
    split <;> decide
theorem step_kind {rx : Bool} {l : List UInt8} {k : Nat} {t : List UInt8} {z : Nat} (h : stepL rx l = .tok k t z) : k ≠ 0 := by
 cases l with
 | nil => cases h
 | cons c r =>
  rw [step_cons] at h
  have hq : ∀ j q, j ≠ 0 → St.ofQ j q = .tok k t z → k ≠ 0 := fun j q hj e => by cases q <;> simp [St.ofQ] at e; obtain ⟨rfl, _⟩ := e; exact hj
  split at h
  ·
   cases h; decide
  split at h
  ·
   exact hq 3 _ (by decide) h
  split at h
  ·
   exact hq 4 _ (by decide) h
  split at h
  ·
   injection h with h1 h2 h3; rw [← h1]; exact kind_pos _ _
  split at h
  ·
   cases h; decide
  split at h
  ·
   cases h; decide
  ·
   cases h
/-- What Lex's tokens are like. -/
def Rise (p q : Nat) : List Tok → Prop
 | [] => True
 | t :: r => p ≤ t.a ∧ t.a < q ∧ t.k ≠ 0 ∧ Rise (t.a + 1) q r
theorem Rise.mono {p p' q : Nat} : ∀ {r : List Tok}, Rise p q r → p' ≤ p → Rise p' q r
 | [], _, _ => trivial
 | _ :: _, h, hp => ⟨by have := h.1; omega, h.2⟩
theorem lexF_rise : ∀ (n : Nat) (rx : Bool) (p : Nat) (l : List UInt8) (r : List Tok), lexF n rx p l = .ok r → Rise p (p + l.length) r
 | 0, _, _, _, r, h => by cases h; trivial
 | n + 1, rx, p, l, r, h => by
  unfold lexF at h
  cases hst : stepL rx (l.drop (blankL l)) with
  | eof => rw [hst] at h; cases h; trivial
  | bad o => rw [hst] at h; cases h
  | tok k t z =>
   rw [hst] at h
   simp only [] at h
   have h1 := (step_le rx _).1 _ _ _ hst
   have h2 : (l.drop (blankL l)).length = l.length - blankL l := List.length_drop
   have h3 := blank_le l
   cases hx : lexF n (rxA k t) (p + blankL l + z) (l.drop (blankL l + z)) with
   | error e => rw [hx] at h; cases h
   | ok r' =>
    rw [hx] at h
    cases h
    have ih := lexF_rise n _ _ _ _ hx
    have h4 : (l.drop (blankL l + z)).length = l.length - (blankL l + z) := List.length_drop
    rw [h4, show p + blankL l + z + (l.length - (blankL l + z)) = p + l.length from by omega] at ih
    exact ⟨by show p ≤ p + blankL l; omega, by show p + blankL l < _; omega, step_kind hst, ih.mono (by show p + blankL l + 1 ≤ _; omega)⟩
theorem lexF_err : ∀ (n : Nat) (rx : Bool) (p : Nat) (l : List UInt8) (e : Nat), lexF n rx p l = .error e → e < p + l.length
 | 0, _, _, _, _, h => by cases h
 | n + 1, rx, p, l, e, h => by
  unfold lexF at h
  have h2 : (l.drop (blankL l)).length = l.length - blankL l := List.length_drop
  have h3 := blank_le l
  cases hst : stepL rx (l.drop (blankL l)) with
  | eof => rw [hst] at h; cases h
  | bad o => rw [hst] at h; cases h; have := (step_le rx _).2 _ hst; omega
  | tok k t z =>
   rw [hst] at h
   simp only [] at h
   have h1 := (step_le rx _).1 _ _ _ hst
   cases hx : lexF n (rxA k t) (p + blankL l + z) (l.drop (blankL l + z)) with
   | ok r' => rw [hx] at h; cases h
   | error e' =>
    rw [hx] at h
    cases h
    have ih := lexF_err n _ _ _ _ hx
    have h4 : (l.drop (blankL l + z)).length = l.length - (blankL l + z) := List.length_drop
    omega
theorem Rise.at : ∀ {p q : Nat} {r : List Tok} (_ : Rise p q r) (i : Nat) (hi : i < r.length), r[i].k ≠ 0 ∧ p ≤ r[i].a ∧ r[i].a < q ∧ (∀ _ : 0 < i, (r[i - 1]'(Nat.lt_of_le_of_lt (Nat.sub_le _ _) hi)).a < r[i].a)
 | _, _, t :: r, h, 0, _ => ⟨h.2.2.1, h.1, h.2.1, fun h => absurd h (by omega)⟩
 | p, q, t :: r, h, i + 1, hi => by
  have hi' : i < r.length := by simpa using hi
  obtain ⟨h1, h2, h3, h4⟩ := Rise.at h.2.2.2 i hi'
  have hp := h.1
  refine ⟨h1, by simp; omega, h3, fun _ => ?_⟩
  cases i with
  | zero => simp at h2 ⊢; omega
  | succ i => simpa using h4 (by omega)
/-- The row of all tokens, End the last. -/
theorem rise_row {n : Nat} {r : List Tok} (h : Rise 0 n r) (i : Nat) (hi : i < (r ++ [(⟨0, [], n⟩ : Tok)]).length) :
  (((r ++ [(⟨0, [], n⟩ : Tok)])[i]'hi).k = 0 ↔ i = r.length) ∧ (∀ _ : 0 < i, ((r ++ [(⟨0, [], n⟩ : Tok)])[i - 1]'(Nat.lt_of_le_of_lt (Nat.sub_le _ _) hi)).a < ((r ++ [(⟨0, [], n⟩ : Tok)])[i]'hi).a) := by
 rw [List.length_append, List.length_singleton] at hi
 by_cases hr : i < r.length
 ·
  obtain ⟨h1, _, _, h4⟩ := h.at i hr
  refine ⟨⟨fun e => ?_, fun e => by omega⟩, fun h0 => ?_⟩
  ·
   rw [List.getElem_append_left hr] at e; exact absurd e h1
  ·
   rw [List.getElem_append_left hr, List.getElem_append_left (by omega)]; exact h4 h0
 ·
  obtain rfl : i = r.length := by omega
  refine ⟨⟨fun _ => rfl, fun _ => by simp⟩, fun h0 => ?_⟩
  rw [List.getElem_append_left (by omega), List.getElem_append_right (Nat.le_refl _)]
  simpa using (h.at (r.length - 1) (by omega)).2.2.1
theorem Rise.len : ∀ {p q : Nat} {r : List Tok}, Rise p q r → p ≤ q → p + r.length ≤ q
 | _, _, [], _, hp => hp
 | _, _, _ :: _, h, _ => by
  have := h.2.2.2.len (by have := h.2.1; omega)
  have := h.1
  simp only [List.length_cons]; omega
end Go.Proofs.YtmbfdkiejneheaaGreatDoor

namespace Go.Proofs.YtmbfdkiejneheaaGreatDoor

/-- The byte that stands behind. -/
def Cut10 (c : UInt8) (l : List UInt8) : Prop := c = 32 ∨ (c = 10 ∧ l.getLast? ≠ some 92)
theorem Cut10.ne {c : UInt8} {l : List UInt8} (h : Cut10 c l) : c = 32 ∨ c = 10 := h.imp id And.left
theorem Cut10.tail {c e : UInt8} {t : List UInt8} (h : Cut10 c (e :: t)) : Cut10 c t := by
 rcases h with h | ⟨h, h2⟩
 ·
  exact .inl h
 ·
  refine .inr ⟨h, fun e2 => h2 ?_⟩
  cases t with
  | nil => cases e2
  | cons d t => rw [List.getLast?_cons_cons]; exact e2
theorem Cut10.drop {c : UInt8} : ∀ {l : List UInt8} (k : Nat), Cut10 c l → Cut10 c (l.drop k)
 | _, 0, h => h
 | [], _ + 1, h => h
 | _ :: _, k + 1, h => h.tail.drop k
theorem tw_app {p : UInt8 → Bool} {c : UInt8} {y : List UInt8} (hc : p c = false) : ∀ m : List UInt8, ((m ++ c :: y).takeWhile p) = m.takeWhile p
 | [] => by rw [List.nil_append, List.takeWhile_cons, if_neg (by rw [hc]; simp)]; rfl
 | e :: m => by
  rw [List.cons_append, List.takeWhile_cons, List.takeWhile_cons, tw_app hc m]
theorem tw_lt {p : UInt8 → Bool} {x : List UInt8} : ∀ m : List UInt8, (m.takeWhile p).length < m.length → ((m ++ x).takeWhile p) = m.takeWhile p
 | [], h => by simp at h
 | e :: m, h => by
  rw [List.cons_append, List.takeWhile_cons, List.takeWhile_cons]
  rw [List.takeWhile_cons] at h
  split
  ·
   rename_i hp
   rw [if_pos hp] at h
   rw [tw_lt m (by simpa using h)]
  ·
   rfl
theorem blank_app {c : UInt8} {y : List UInt8} : ∀ l : List UInt8, Cut10 c l → blankL l < l.length → blankL (l ++ c :: y) = blankL l
 | [], _, h => by simp at h
 | [e], hc, h => by
  rw [List.singleton_append, blank_cons e (c :: y), blank_cons e []]
  rw [blank_cons] at h
  split
  ·
   rename_i h1; rw [if_pos h1] at h; simp at h
  ·
   rename_i h1
   rw [if_neg h1] at h
   split
   ·
    rename_i h2
    rcases hc with rfl | ⟨rfl, h3⟩
    ·
     simp
    ·
     exact absurd (by rw [h2]; rfl) h3
   ·
    rename_i h2
    rw [if_neg h2] at h
    split
    ·
     rename_i h3; rw [if_pos h3] at h; simp at h
    ·
     rfl
 | e :: d :: t, hc, h => by
  rw [List.cons_append, blank_cons, blank_cons]
  rw [blank_cons] at h
  by_cases h1 : e = 32 ∨ e = 9 ∨ e = 13
  ·
   rw [if_pos h1] at h
   rw [if_pos h1, if_pos h1, blank_app (d :: t) hc.tail (by simp only [List.length_cons] at h ⊢; omega)]
  ·
   rw [if_neg h1] at h
   rw [if_neg h1, if_neg h1]
   by_cases h2 : e = 92
   ·
    rw [if_pos h2] at h
    rw [if_pos h2, if_pos h2]
    simp only [List.cons_append]
    simp only [] at h
    by_cases h3 : d = 10
    ·
     rw [if_pos h3] at h
     rw [if_pos h3, if_pos h3, blank_app t hc.tail.tail (by simp only [List.length_cons] at h; omega)]
    ·
     rw [if_neg h3, if_neg h3]
   ·
    rw [if_neg h2] at h
    rw [if_neg h2, if_neg h2]
    by_cases h3 : e = 35
    ·
     rw [if_pos h3] at h
     rw [if_pos h3, if_pos h3]
     have h4 : cmtL (d :: t) < (d :: t).length := by simp only [List.length_cons] at h ⊢; omega
     unfold cmtL at h4 ⊢
     rw [tw_lt _ h4]
    ·
     rw [if_neg h3, if_neg h3]
/-- All of it blank: so it is ahead of a byte 10. -/
theorem blank_all10 {y : List UInt8} : ∀ l : List UInt8, Cut10 10 l → blankL l = l.length → blankL (l ++ 10 :: y) = l.length
 | [], _, _ => by rw [List.nil_append, blank_cons]; simp
 | [e], hc, h => by
  rw [List.singleton_append, blank_cons]
  rw [blank_cons] at h
  by_cases h1 : e = 32 ∨ e = 9 ∨ e = 13
  ·
   rw [if_pos h1, blank_cons]; simp
  ·
   rw [if_neg h1] at h ⊢
   by_cases h2 : e = 92
   ·
    rw [if_pos h2] at h; simp at h
   ·
    rw [if_neg h2] at h ⊢
    by_cases h3 : e = 35
    ·
     rw [if_pos h3]; simp [cmtL]
    ·
     rw [if_neg h3] at h; simp at h
 | e :: d :: t, hc, h => by
  rw [List.cons_append, blank_cons]
  rw [blank_cons] at h
  by_cases h1 : e = 32 ∨ e = 9 ∨ e = 13
  ·
   rw [if_pos h1] at h ⊢
   rw [blank_all10 (d :: t) hc.tail (by simp only [List.length_cons] at h ⊢; omega)]
   simp only [List.length_cons]; omega
  ·
   rw [if_neg h1] at h ⊢
   by_cases h2 : e = 92
   ·
    rw [if_pos h2] at h ⊢
    simp only [List.cons_append]
    simp only [] at h
    by_cases h3 : d = 10
    ·
     rw [if_pos h3] at h ⊢
     rw [blank_all10 t hc.tail.tail (by simp only [List.length_cons] at h; omega)]
     simp only [List.length_cons]; omega
    ·
     rw [if_neg h3] at h; simp at h
   ·
    rw [if_neg h2] at h ⊢
    by_cases h3 : e = 35
    ·
     rw [if_pos h3] at h ⊢
     rw [← h]; unfold cmtL
     rw [tw_app (by decide)]
    ·
     rw [if_neg h3] at h; simp at h
/-- .. and ahead of what is all blank. -/
theorem blank_allx {x : List UInt8} (hx : blankL x = x.length) (h10 : (10 : UInt8) ∉ x) : ∀ l : List UInt8, blankL l = l.length → blankL (l ++ x) = l.length + x.length
 | [], _ => by rw [List.nil_append, hx]; simp
 | [e], h => by
  rw [List.singleton_append, blank_cons]
  rw [blank_cons] at h
  by_cases h1 : e = 32 ∨ e = 9 ∨ e = 13
  ·
   rw [if_pos h1, hx]; simp
  ·
   rw [if_neg h1] at h ⊢
   by_cases h2 : e = 92
   ·
    rw [if_pos h2] at h; simp at h
   ·
    rw [if_neg h2] at h ⊢
    by_cases h3 : e = 35
    ·
     rw [if_pos h3]; simp only [List.length_cons, List.length_nil]
     rw [cmt_whole x h10]
    ·
     rw [if_neg h3] at h; simp at h
 | e :: d :: t, h => by
  rw [List.cons_append, blank_cons]
  rw [blank_cons] at h
  by_cases h1 : e = 32 ∨ e = 9 ∨ e = 13
  ·
   rw [if_pos h1] at h ⊢
   rw [blank_allx hx h10 (d :: t) (by simp only [List.length_cons] at h ⊢; omega)]
   simp only [List.length_cons]; omega
  ·
   rw [if_neg h1] at h ⊢
   by_cases h2 : e = 92
   ·
    rw [if_pos h2] at h ⊢
    simp only [List.cons_append]
    simp only [] at h
    by_cases h3 : d = 10
    ·
     rw [if_pos h3] at h ⊢
     rw [blank_allx hx h10 t (by simp only [List.length_cons] at h; omega)]
     simp only [List.length_cons]; omega
    ·
     rw [if_neg h3] at h; simp at h
   ·
    rw [if_neg h2] at h ⊢
    by_cases h3 : e = 35
    ·
     rw [if_pos h3] at h ⊢
     have h4 : cmtL (d :: t) = (d :: t).length := by simp only [List.length_cons] at h ⊢; omega
     have h5 := cmt_no10 _ h4
     rw [cmt_whole (d :: t ++ x) (by rw [List.mem_append]; rintro (h | h); exact h5 h; exact h10 h)]
     simp only [List.length_append, List.length_cons]; omega
    ·
     rw [if_neg h3] at h; simp at h
where
 cmt_whole : ∀ l : List UInt8, (10 : UInt8) ∉ l → cmtL l = l.length
 | [], _ => rfl
 | b :: l, h => by
  have hb : (b != 10) = true := by
   rw [bne_iff_ne]; rintro rfl; exact h (List.mem_cons_self ..)
  have ih := cmt_whole l (fun hl => h (List.mem_cons_of_mem _ hl))
  unfold cmtL at ih ⊢
  rw [List.takeWhile_cons, if_pos hb, List.length_cons, ih, List.length_cons]
 cmt_no10 : ∀ l : List UInt8, cmtL l = l.length → (10 : UInt8) ∉ l
 | [], _ => by simp
 | b :: l, h => by
  unfold cmtL at h
  rw [List.takeWhile_cons] at h
  split at h
  ·
   rename_i hb
   have := cmt_no10 l (by unfold cmtL; simpa using h)
   have hb' : ¬ b = 10 := by simpa using hb
   intro hm
   rcases List.mem_cons.1 hm with e | e
   ·
    exact hb' e.symm
   ·
    exact this e
  ·
   simp at h
theorem isNm_cut {c : UInt8} (h : c = 32 ∨ c = 10) : isNm c = false ∧ isDg c = false ∧ ¬ c = 46 ∧ ¬ c = 40 := by
 rcases h with rfl | rfl <;> decide
theorem dig_app {c : UInt8} {y : List UInt8} (h : c = 32 ∨ c = 10) (m : List UInt8) : digL (m ++ c :: y) = digL m := by
 unfold digL; rw [tw_app (isNm_cut h).2.1]
theorem nm_app {c : UInt8} {y : List UInt8} (h : c = 32 ∨ c = 10) (m : List UInt8) : nmL (m ++ c :: y) = nmL m := by
 unfold nmL; rw [tw_app (isNm_cut h).1]
theorem num_app {c : UInt8} {y : List UInt8} (h : c = 32 ∨ c = 10) (m : List UInt8) : numL (m ++ c :: y) = numL m := by
 unfold numL
 rw [dig_app h, List.drop_append_of_le_length (dig_le m)]
 cases hd : m.drop (digL m) with
 | nil => rw [List.nil_append, numT_cons, if_neg (isNm_cut h).2.2.1]; rfl
 | cons e t => rw [List.cons_append, numT_cons, numT_cons, dig_app h]
theorem sign_app {c : UInt8} {y : List UInt8} (h : c = 32 ∨ c = 10) : ∀ m : List UInt8, m ≠ [] → signL (m ++ c :: y) = signL m
 | [], h0 => absurd rfl h0
 | [e], _ => by
  have h1 : ¬ ([e] ++ c :: y).take 2 ∈ signsL := by
   simp only [List.singleton_append, List.take_succ_cons, List.take_zero]
   intro hm
   have h2 : ∀ x ∈ signsL, ¬ x[1]? = some 32 ∧ ¬ x[1]? = some 10 := by decide
   have h3 := h2 _ hm
   rcases h with rfl | rfl
   ·
    exact h3.1 rfl
   ·
    exact h3.2 rfl
  have h2 : ¬ [e].take 2 ∈ signsL := by
   intro hm
   have h2 : ∀ x ∈ signsL, x.length = 2 := by decide
   have := h2 _ hm
   simp at this
  unfold signL
  rw [if_neg h1, if_neg h2]
  rfl
 | e :: d :: t, _ => by
  rfl
theorem kind_app {c : UInt8} {y : List UInt8} (h : c = 32 ∨ c = 10) (a b : List UInt8) : kindL a (b ++ c :: y) = kindL a b := by
 unfold kindL
 cases b with
 | nil => rw [List.nil_append, List.head?_cons, if_neg (show ¬ some c = some 40 from fun e => (isNm_cut h).2.2.2 (Option.some.inj e))]; rfl
 | cons d t => rfl
theorem qu_app {esc : UInt8 → List UInt8} {q : UInt8} {x : List UInt8} : ∀ (m : List UInt8) (t : List UInt8) (z : Nat), quL esc q m = .done t z → quL esc q (m ++ x) = .done t z
 | [], _, _, h => by unfold quL at h; cases h
 | [e], t, z, h => by
  rw [List.singleton_append]
  unfold quL at h ⊢
  split
  ·
   rename_i h1; rw [if_pos h1] at h; exact h
  ·
   rename_i h1; rw [if_neg h1] at h
   split at h
   ·
    cases h
   ·
    split at h
    ·
     cases h
    ·
     unfold quL at h; cases h
 | e :: d :: r, t, z, h => by
  rw [List.cons_append, List.cons_append]
  unfold quL at h ⊢
  by_cases h1 : e = q
  ·
   rw [if_pos h1] at h ⊢; exact h
  ·
   rw [if_neg h1] at h ⊢
   by_cases h2 : e = 92
   ·
    rw [if_pos h2] at h ⊢
    simp only [] at h ⊢
    by_cases h3 : esc d = []
    ·
     rw [if_pos h3] at h; cases h
    ·
     rw [if_neg h3] at h ⊢
     cases hq : quL esc q r with
     | done t' z' => rw [qu_app r t' z' hq]; rw [hq] at h; exact h
     | opened => rw [hq] at h; cases h
     | wrong o => rw [hq] at h; cases h
   ·
    rw [if_neg h2] at h ⊢
    by_cases h3 : e = 10
    ·
     rw [if_pos h3] at h; cases h
    ·
     rw [if_neg h3] at h ⊢
     cases hq : quL esc q (d :: r) with
     | done t' z' =>
      have := qu_app (x := x) (d :: r) t' z' hq
      rw [List.cons_append] at this
      rw [this]; rw [hq] at h; exact h
     | opened => rw [hq] at h; cases h
     | wrong o => rw [hq] at h; cases h
theorem step_app {c : UInt8} {y : List UInt8} (hc : c = 32 ∨ c = 10) {rx : Bool} {m : List UInt8} {k : Nat} {t : List UInt8} {z : Nat} (h : stepL rx m = .tok k t z) : stepL rx (m ++ c :: y) = .tok k t z := by
 cases m with
 | nil => cases h
 | cons e r =>
  have hn := num_app (y := y) hc (e :: r)
  have hs := sign_app (y := y) hc (e :: r) (by simp)
  have hm := nm_app (y := y) hc (e :: r)
  have hk := kind_app (y := y) hc
  rw [List.cons_append] at hn hs hm
  rw [step_cons] at h
  rw [List.cons_append, step_cons, hn, hs, hm]
  have ht : ∀ j, j ≤ (e :: r).length → (e :: (r ++ c :: y)).take j = (e :: r).take j := fun j hj => by rw [← List.cons_append, List.take_append_of_le_length hj]
  have hd : ∀ j, j ≤ (e :: r).length → (e :: (r ++ c :: y)).drop j = (e :: r).drop j ++ c :: y := fun j hj => by rw [← List.cons_append, List.drop_append_of_le_length hj]
  by_cases h1 : e = 10
  ·
   rw [if_pos h1] at h ⊢; exact h
  rw [if_neg h1] at h ⊢
  by_cases h2 : e = 34
  ·
   rw [if_pos h2] at h ⊢
   cases hq : quL strEsc 34 r with
   | done t' z' => rw [qu_app r t' z' hq]; rw [hq] at h; exact h
   | opened => rw [hq] at h; cases h
   | wrong o => rw [hq] at h; cases h
  rw [if_neg h2] at h ⊢
  by_cases h3 : e = 47 ∧ rx = true
  ·
   rw [if_pos h3] at h ⊢
   cases hq : quL reEsc 47 r with
   | done t' z' => rw [qu_app r t' z' hq]; rw [hq] at h; exact h
   | opened => rw [hq] at h; cases h
   | wrong o => rw [hq] at h; cases h
  rw [if_neg h3] at h ⊢
  by_cases h4 : isLt e = true
  ·
   rw [if_pos h4] at h ⊢
   rw [ht _ (nm_le _), hd _ (nm_le _), hk]; exact h
  rw [if_neg h4] at h ⊢
  by_cases h5 : 0 < numL (e :: r)
  ·
   rw [if_pos h5] at h ⊢
   rw [ht _ (num_le _)]; exact h
  rw [if_neg h5] at h ⊢
  by_cases h6 : 0 < signL (e :: r)
  ·
   rw [if_pos h6] at h ⊢
   rw [ht _ (sign_le _)]; exact h
  rw [if_neg h6] at h
  cases h
end Go.Proofs.YtmbfdkiejneheaaGreatDoor

namespace Go.Proofs.YtmbfdkiejneheaaGreatDoor

theorem step_nil {rx : Bool} {l : List UInt8} (h : stepL rx l = .eof) : l = [] := by
 cases l with
 | nil => rfl
 | cons c t =>
  exfalso
  rw [step_cons] at h
  have hq : ∀ k q, St.ofQ k q ≠ .eof := fun k q => by cases q <;> intro e <;> cases e
  split at h
  ·
   cases h
  split at h
  ·
   exact hq _ _ h
  split at h
  ·
   exact hq _ _ h
  split at h
  ·
   cases h
  split at h
  ·
   cases h
  split at h <;> cases h
theorem except_map_map {f g : List Tok → List Tok} (x : Except Nat (List Tok)) : (x.map f).map g = x.map (fun r => g (f r)) := by cases x <;> rfl
/-- What a step of a text with more behind it is. -/
theorem lexF_step_app {c : UInt8} {y : List UInt8} {rx : Bool} {p N : Nat} {l : List UInt8} {k : Nat} {t : List UInt8} {z : Nat} (hc : Cut10 c l) (hst : stepL rx (l.drop (blankL l)) = .tok k t z) (hN : (l ++ c :: y).length < N) :
  lexF N rx p (l ++ c :: y) = (lexF N (rxA k t) (p + blankL l + z) (l.drop (blankL l + z) ++ c :: y)).map (⟨k, t, p + blankL l⟩ :: ·) := by
 have h1 := (step_le rx _).1 _ _ _ hst
 have h2 : (l.drop (blankL l)).length = l.length - blankL l := List.length_drop
 have h3 := blank_le l
 have hb := blank_app (y := y) l hc (by omega)
 have hd : (l ++ c :: y).drop (blankL (l ++ c :: y)) = l.drop (blankL l) ++ c :: y := by rw [hb, List.drop_append_of_le_length h3]
 have hs : stepL rx ((l ++ c :: y).drop (blankL (l ++ c :: y))) = .tok k t z := by rw [hd]; exact step_app hc.ne hst
 rw [lexF_tok hs hN, hb, List.drop_append_of_le_length (by omega)]
theorem lexF_10 (b : List UInt8) : ∀ (n : Nat) (rx : Bool) (p : Nat) (l : List UInt8) (r : List Tok), lexF n rx p l = .ok r → l.length < n → Cut10 10 l → ∀ N, (l ++ 10 :: b).length < N →
  lexF N rx p (l ++ 10 :: b) = (lexF N true (p + l.length + 1) b).map (fun q => r ++ ⟨1, [], p + l.length⟩ :: q)
 | 0, _, _, _, _, _, h, _, _, _ => by omega
 | n + 1, rx, p, l, r, h, hn, hc, N, hN => by
  have h3 := blank_le l
  have h2 : (l.drop (blankL l)).length = l.length - blankL l := List.length_drop
  unfold lexF at h
  cases hst : stepL rx (l.drop (blankL l)) with
  | bad o => rw [hst] at h; cases h
  | eof =>
   rw [hst] at h
   cases h
   have he := step_nil hst
   rw [he] at h2
   simp only [List.length_nil] at h2
   have hb := blank_all10 (y := b) l hc (by omega)
   have hd : (l ++ 10 :: b).drop (blankL (l ++ 10 :: b)) = 10 :: b := by rw [hb, List.drop_left]
   have hs : stepL rx ((l ++ 10 :: b).drop (blankL (l ++ 10 :: b))) = .tok 1 [] 1 := by rw [hd, step_cons, if_pos rfl]
   rw [lexF_tok hs hN, hb, show (l ++ 10 :: b).drop (l.length + 1) = b from by rw [← List.drop_drop, List.drop_left]; rfl]
   rfl
  | tok k t z =>
   rw [hst] at h
   simp only [] at h
   have h1 := (step_le rx _).1 _ _ _ hst
   have h4 : (l.drop (blankL l + z)).length = l.length - (blankL l + z) := List.length_drop
   cases hx : lexF n (rxA k t) (p + blankL l + z) (l.drop (blankL l + z)) with
   | error e => rw [hx] at h; cases h
   | ok r' =>
    rw [hx] at h
    cases h
    rw [List.length_append, List.length_cons] at hN
    rw [lexF_step_app hc hst (by rw [List.length_append, List.length_cons]; omega),
     lexF_10 b n _ _ _ _ hx (by omega) (hc.drop _) N (by rw [List.length_append, List.length_cons]; omega), except_map_map, h4,
     show p + blankL l + z + (l.length - (blankL l + z)) = p + l.length from by omega]
    rfl
theorem lexF_x {c : UInt8} {y : List UInt8} (hx : blankL (c :: y) = (c :: y).length) (h10 : (10 : UInt8) ∉ c :: y) (hc : c = 32) : ∀ (n : Nat) (rx : Bool) (p : Nat) (l : List UInt8) (r : List Tok), lexF n rx p l = .ok r → l.length < n → ∀ N, (l ++ c :: y).length < N →
  lexF N rx p (l ++ c :: y) = .ok r
 | 0, _, _, _, _, _, h, _, _ => by omega
 | n + 1, rx, p, l, r, h, hn, N, hN => by
  have h3 := blank_le l
  have h2 : (l.drop (blankL l)).length = l.length - blankL l := List.length_drop
  unfold lexF at h
  cases hst : stepL rx (l.drop (blankL l)) with
  | bad o => rw [hst] at h; cases h
  | eof =>
   rw [hst] at h
   cases h
   have he := step_nil hst
   rw [he] at h2
   simp only [List.length_nil] at h2
   have hb := blank_allx hx h10 l (by omega)
   have hd : (l ++ c :: y).drop (blankL (l ++ c :: y)) = [] := List.drop_eq_nil_of_le (by rw [hb, List.length_append]; exact Nat.le_refl _)
   rw [lexF_eof (by rw [hd]; rfl)]
  | tok k t z =>
   rw [hst] at h
   simp only [] at h
   have h1 := (step_le rx _).1 _ _ _ hst
   have h4 : (l.drop (blankL l + z)).length = l.length - (blankL l + z) := List.length_drop
   cases hx' : lexF n (rxA k t) (p + blankL l + z) (l.drop (blankL l + z)) with
   | error e => rw [hx'] at h; cases h
   | ok r' =>
    rw [hx'] at h
    cases h
    rw [List.length_append, List.length_cons] at hN
    rw [lexF_step_app (.inl hc) hst (by rw [List.length_append, List.length_cons]; omega),
     lexF_x hx h10 hc n _ _ _ _ hx' (by omega) N (by rw [List.length_append, List.length_cons]; omega)]
    rfl
def Tok.by (d : Nat) (t : Tok) : Tok := ⟨t.k, t.t, t.a + d⟩
theorem lexF_by (d : Nat) : ∀ (n : Nat) (rx : Bool) (p : Nat) (l : List UInt8) (r : List Tok), lexF n rx p l = .ok r → lexF n rx (p + d) l = .ok (r.map (Tok.by d))
 | 0, _, _, _, _, h => by cases h; rfl
 | n + 1, rx, p, l, r, h => by
  unfold lexF at h ⊢
  cases hst : stepL rx (l.drop (blankL l)) with
  | bad o => rw [hst] at h; cases h
  | eof => rw [hst] at h; cases h; rfl
  | tok k t z =>
   rw [hst] at h
   simp only [] at h ⊢
   cases hx : lexF n (rxA k t) (p + blankL l + z) (l.drop (blankL l + z)) with
   | error e => rw [hx] at h; cases h
   | ok r' =>
    rw [hx] at h
    cases h
    rw [show p + d + blankL l + z = p + blankL l + z + d from by omega, lexF_by d n _ _ _ _ hx, show p + d + blankL l = p + blankL l + d from by omega]
    rfl
/-- P11.3. -/
theorem lex_lines {a b : List UInt8} {ra rb : List Tok} (ha : lexL a = .ok ra) (hb : lexL b = .ok rb) (h92 : a.getLast? ≠ some 92) :
  lexL (a ++ 10 :: b) = .ok (ra ++ ⟨1, [], a.length⟩ :: rb.map (Tok.by (a.length + 1))) := by
 unfold lexL at ha hb ⊢
 rw [lexF_10 b _ _ _ _ _ ha (Nat.lt_succ_self _) (.inr ⟨rfl, h92⟩) _ (Nat.lt_succ_self _)]
 have h := lexF_by (a.length + 1) _ _ _ _ _ hb
 rw [lexF_more (b.length + 1) ((a ++ 10 :: b).length + 1) _ _ _ (by omega) (by rw [List.length_append, List.length_cons]; omega)] at h
 rw [show 0 + a.length + 1 = 0 + (a.length + 1) from by omega, h]
 simp [Except.map]
/-- P11.2. -/
theorem lex_blanks {a note : List UInt8} {ra : List Tok} (ha : lexL a = .ok ra) (h10 : (10 : UInt8) ∉ note) : lexL (a ++ 32 :: 9 :: 35 :: note) = .ok ra := by
 unfold lexL at ha ⊢
 refine lexF_x ?_ ?_ rfl _ _ _ _ _ ha (Nat.lt_succ_self _) _ (Nat.lt_succ_self _)
 ·
  rw [blank_cons, if_pos (.inl rfl), blank_cons, if_pos (.inr (.inl rfl)), blank_cons, if_neg (by decide), if_neg (by decide), if_pos rfl, blank_allx.cmt_whole note h10]
  simp only [List.length_cons]; omega
 ·
  simp [h10]
end Go.Proofs.YtmbfdkiejneheaaGreatDoor

namespace Go.Proofs.YtmbfdkiejneheaaGreatDoor

/-- What the document's Parse answers. -/
def parseW (reOk : List UInt8 → Bool) (s : List UInt8) : Except (Nat × Nat) PT := match lexL s with
 | .error p => .error (p, 9)
 | .ok l => match progP reOk (l ++ [⟨0, [], s.length⟩]) with
  | .error e => .error e
  | .ok (t, _) => .ok t
theorem parseW_ok {reOk : List UInt8 → Bool} {s : List UInt8} {t : PT} (h : parseW reOk s = .ok t) : ∃ l l2, lexL s = .ok l ∧ progP reOk (l ++ [⟨0, [], s.length⟩]) = .ok (t, l2) := by
 unfold parseW at h
 cases hl : lexL s with
 | error p => rw [hl] at h; cases h
 | ok l =>
  rw [hl] at h
  simp only at h
  cases hp : progP reOk (l ++ [⟨0, [], s.length⟩]) with
  | error e => rw [hp] at h; cases h
  | ok x =>
   obtain ⟨u, l2⟩ := x
   rw [hp] at h
   injection h with h
   subst h
   exact ⟨l, l2, rfl, hp⟩
theorem parseW_of {reOk : List UInt8 → Bool} {s : List UInt8} {t : PT} {l l2 : List Tok} (hl : lexL s = .ok l) (hp : progP reOk (l ++ [⟨0, [], s.length⟩]) = .ok (t, l2)) : parseW reOk s = .ok t := by
 unfold parseW
 rw [hl]
 simp only
 rw [hp]
theorem rise_mem : ∀ {l : List Tok} {p q : Nat}, Rise p q l → ∀ x ∈ l, x.k ≠ 0 ∧ x.a < q := fun {l p q} h x hx => by
 obtain ⟨i, hi, rfl⟩ := List.mem_iff_getElem.1 hx
 have := h.at i hi
 exact ⟨this.1, this.2.2.1⟩
theorem lex_rise {s : List UInt8} {l : List Tok} (h : lexL s = .ok l) : Rise 0 s.length l := by
 have := lexF_rise _ _ _ _ _ h
 rwa [Nat.zero_add] at this
theorem lex_tl {s : List UInt8} {l : List Tok} (h : lexL s = .ok l) (n : Nat) : Tl (l ++ [⟨0, [], n⟩]) := ⟨l, _, rfl, rfl, fun x hx => (rise_mem (lex_rise h) x hx).1⟩
/-- Two programs alike but for places are read alike. -/
theorem prog_alike {reOk : List UInt8 → Bool} {l m : List Tok} (h : l.map fk = m.map fk) {t : PT} {l2 : List Tok} (ht : progP reOk l = .ok (t, l2)) : ∃ u m2, progP reOk m = .ok (u, m2) ∧ fl u = fl t ∧ m2.map fk = l2.map fk := by
 have h1 := prog_m reOk l
 have h2 := prog_m reOk m
 rw [h, h2, ht, mp_ok] at h1
 cases hx : progP reOk m with
 | error e => rw [hx] at h1; cases h1
 | ok x =>
  obtain ⟨u, m2⟩ := x
  rw [hx, mp_ok] at h1
  injection h1 with h1
  injection h1 with h3 h4
  exact ⟨u, m2, rfl, h3, h4⟩
theorem fk_by (d : Nat) (l : List Tok) : (l.map (Tok.by d)).map fk = l.map fk := by rw [List.map_map]; rfl
/-- What separates items and stands ahead of them all. -/
theorem prog_seps {reOk : List UInt8 → Bool} {l : List Tok} (hl : Tl l) : ∀ (ss : List Tok), (∀ x ∈ ss, sepB x = true) → progP reOk (ss ++ l) = progP reOk l := fun ss hs => by
 have hd : sepsP (ss ++ l) = sepsP l := by
  induction ss with
  | nil => rfl
  | cons a ss ih =>
   show List.dropWhile sepB (a :: (ss ++ l)) = _
   rw [List.dropWhile_cons, if_pos (hs a (by simp))]
   exact ih (fun x hx => hs x (by simp [hx]))
 unfold progP
 rw [items_more reOk (l.length + 1) ((ss ++ l).length + 1) l [] (by omega) (by rw [List.length_append]; omega) hl]
 unfold itemsL
 rw [hd]
/-- ; and blanks ahead of a text, blanks and a note behind it. -/
theorem lex_spaced {s note : List UInt8} {r : List Tok} (h : lexL s = .ok r) (h10 : (10 : UInt8) ∉ note) :
  lexL (59 :: 10 :: 32 :: 59 :: (s ++ 32 :: 9 :: 35 :: note)) = .ok (⟨8, [59], 0⟩ :: ⟨1, [], 1⟩ :: ⟨8, [59], 3⟩ :: r.map (Tok.by 4)) := by
 have hb := lex_blanks h h10
 generalize s ++ 32 :: 9 :: 35 :: note = x at *
 have h4 := lexF_by 4 _ _ _ _ _ hb
 rw [lexF_more _ ((59 :: 10 :: 32 :: 59 :: x).length + 1) _ _ _ (Nat.lt_succ_self _) (by simp only [List.length_cons]; omega)] at h4
 unfold lexL
 have b1 : blankL (59 :: 10 :: 32 :: 59 :: x) = 0 := by rw [blank_cons, if_neg (by decide), if_neg (by decide), if_neg (by decide)]
 have b2 : blankL (10 :: 32 :: 59 :: x) = 0 := by rw [blank_cons, if_neg (by decide), if_neg (by decide), if_neg (by decide)]
 have b3 : blankL (32 :: 59 :: x) = 1 := by rw [blank_cons, if_pos (by decide), blank_cons, if_neg (by decide), if_neg (by decide), if_neg (by decide)]
 have s1 : ∀ y, stepL true (59 :: y) = .tok 8 [59] 1 := fun y => by rw [step_cons]; rfl
 rw [lexF_tok (k := 8) (t := [59]) (z := 1) (by rw [b1]; exact s1 _) (Nat.lt_succ_self _), b1]
 rw [show List.drop (0 + 1) (59 :: 10 :: 32 :: 59 :: x) = 10 :: 32 :: 59 :: x from rfl]
 rw [lexF_tok (k := 1) (t := []) (z := 1) (by rw [b2]; rfl) (by simp only [List.length_cons]; omega), b2]
 rw [show List.drop (0 + 1) (10 :: 32 :: 59 :: x) = 32 :: 59 :: x from rfl]
 rw [lexF_tok (k := 8) (t := [59]) (z := 1) (by rw [b3]; exact s1 _) (by simp only [List.length_cons]; omega), b3]
 rw [show List.drop (1 + 1) (32 :: 59 :: x) = x from rfl]
 rw [show rxA 8 [59] = true from rfl, h4]
 rfl
/-- P13.2. -/
theorem parse_spaced {reOk : List UInt8 → Bool} {s note : List UInt8} {t : PT} (h : parseW reOk s = .ok t) (h10 : (10 : UInt8) ∉ note) : ∃ u, parseW reOk (59 :: 10 :: 32 :: 59 :: (s ++ 32 :: 9 :: 35 :: note)) = .ok u ∧ fl u = fl t := by
 obtain ⟨l, l2, hl, hp⟩ := parseW_ok h
 have hx := lex_spaced hl h10
 generalize (59 :: 10 :: 32 :: 59 :: (s ++ 32 :: 9 :: 35 :: note)) = x at *
 have ht := lex_tl hx x.length
 have htl : Tl (l.map (Tok.by 4) ++ [⟨0, [], x.length⟩]) := ht.suf ⟨[⟨8, [59], 0⟩, ⟨1, [], 1⟩, ⟨8, [59], 3⟩], rfl⟩ (by simp)
 obtain ⟨u, m2, hu, h1, _⟩ := prog_alike (m := l.map (Tok.by 4) ++ [⟨0, [], x.length⟩]) (by rw [List.map_append, List.map_append, fk_by]; rfl) hp
 refine ⟨u, parseW_of hx (l2 := m2) ?_, h1⟩
 rw [← prog_seps htl [⟨8, [59], 0⟩, ⟨1, [], 1⟩, ⟨8, [59], 3⟩] (by simp [sepB])] at hu
 exact hu
end Go.Proofs.YtmbfdkiejneheaaGreatDoor

namespace Go.Proofs.YtmbfdkiejneheaaGreatDoor
open Go.RowKit

/-- What the document's Parse answers. -/
def parseL (s : List UInt8) : Except (Nat × Nat) PT := parseW reB s
theorem lex_len {s : List UInt8} {l : List Tok} (h : lexL s = .ok l) : l.length ≤ s.length := by
 have := (lex_rise h).len (Nat.zero_le _)
 omega
theorem lex_place {s : List UInt8} {l : List Tok} (h : lexL s = .ok l) : ∀ x ∈ l ++ [(⟨0, [], s.length⟩ : Tok)], x.a ≤ s.length := fun x hx => by
 rcases List.mem_append.1 hx with h1 | h1
 ·
  exact Nat.le_of_lt (rise_mem (lex_rise h) x h1).2
 ·
  rw [List.mem_singleton] at h1
  subst h1
  exact Nat.le_refl _
theorem lexF_errle {s : List UInt8} {p : Nat} (h : lexL s = .error p) : p ≤ s.length := by
 have := lexF_err _ _ _ _ _ h
 omega
/-- An error's place and code. -/
theorem parse_told {s : List UInt8} {q : Nat × Nat} (h : parseL s = .error q) : q.1 ≤ s.length ∧ (q.2 = 9 ∨ q.2 = 10 ∨ q.2 = 14) := by
 unfold parseL parseW at h
 cases hl : lexL s with
 | error p =>
  rw [hl] at h
  injection h with h
  subst h
  exact ⟨lexF_errle hl, .inl rfl⟩
 | ok l =>
  rw [hl] at h
  simp only at h
  have hg := good_prog reB _ (lex_tl hl s.length)
  cases hp : progP reB (l ++ [⟨0, [], s.length⟩]) with
  | error e =>
   rw [hp] at h hg
   injection h with h
   subst h
   obtain ⟨⟨x, hx, h1⟩, h2⟩ := hg
   exact ⟨h1 ▸ lex_place hl x hx, h2⟩
  | ok x =>
   rw [hp] at h
   cases h
theorem prog_op (reOk : List UInt8 → Bool) : ∀ (n : Nat) (l : List Tok) (ts : List PT) (t : PT) (l2 : List Tok), itemsL reOk n l ts = .ok (t, l2) → t.op = [112, 114, 111, 103, 114, 97, 109]
 | 0, _, _, _, _, h => by cases h
 | n + 1, l, ts, t, l2, h => by
  unfold itemsL at h
  split at h
  ·
   injection h with h; injection h with h _; subst h; rfl
  ·
   cases hx : itemP reOk (sepsP l) with
   | error e => rw [hx, bnd_err] at h; cases h
   | ok x =>
    obtain ⟨u, l3⟩ := x
    rw [hx, bnd_ok] at h
    exact prog_op reOk n l3 _ t l2 h
theorem parse_op {s : List UInt8} {t : PT} (h : parseL s = .ok t) : t.op = [112, 114, 111, 103, 114, 97, 109] := by
 unfold parseL parseW at h
 cases hl : lexL s with
 | error p => rw [hl] at h; cases h
 | ok l =>
  rw [hl] at h
  simp only at h
  cases hp : progP reB (l ++ [⟨0, [], s.length⟩]) with
  | error e => rw [hp] at h; cases h
  | ok x =>
   rw [hp] at h
   injection h with h
   subst h
   exact prog_op reB _ _ _ _ x.2 hp
/-- The tokens' block has room for them. -/
theorem lex_ok2 (s : ByteArray) (l : List Tok) (w : World) (hs : s.size ≤ 4000) (h : lexL s.data.toList = .ok l) : Calls Tryz.prog 15 #[.string s] w fun e w' =>
  ∃ g c, e = .returned (.tuple #[.slice (some ⟨g, 0, none⟩) (l.length + 1) c, .int .i64 0, .int .i64 0]) ∧ TAt w' g (l ++ [endT s.size]) ∧ l.length + 1 ≤ c ∧ w.heap.size ≤ g ∧ Below w.heap.size w w' := by
 refine (lex_any s w hs).mono ?_
 intro e w' hp
 rw [h] at hp
 obtain ⟨⟨g, c, h1, h2⟩, h3⟩ := hp
 refine ⟨g, c, h1, TAt.own (by simp) h2, ?_, (own_base h2 g rfl).1, h3⟩
 rcases h2.2 with ⟨e1, _⟩ | ⟨g', cap, cur, e1, _, _, hc, _⟩
 ·
  cases e1
 ·
  injection e1 with _ _ e3
  omega
/-- What Parse leaves. -/
def PsPost (X : Except (Nat × Nat) PT) (w : World) (e : Ending) (w' : World) : Prop :=
 Below w.heap.size w w' ∧ match X with
 | .error q => e = .returned (.tuple #[.agg #[.string ⟨#[]⟩, .string ⟨#[]⟩, .int .i64 0, .slice none 0 0], .int .i64 q.1, .int .i64 q.2])
 | .ok t => ∃ n, e = .returned (.tuple #[An.val n, .int .i64 0, .int .i64 0]) ∧ TreeP w' (fun k => w.heap.size ≤ k) t n
theorem below_putA {B g : Nat} {u w : World} (h : Below B u w) (hg : B ≤ g) (n : An) : Below B u (putA w g n) :=
 (((h.setCell (p := ⟨g, 0, none⟩) hg _).setCell (p := ⟨g, 1, none⟩) hg _).setCell (p := ⟨g, 2, none⟩) hg _).setCell (p := ⟨g, 3, none⟩) hg _
set_option maxHeartbeats 8000000 in
set_option maxRecDepth 100000 in
theorem parse_any (s : ByteArray) (w : World) (hs : s.size ≤ 4000) : Calls Tryz.prog 11 #[.string s] w (PsPost (parseL s.data.toList) w) := by
 have HB0 := kH ((Below.refl w.heap.size w).alloc (Nat.le_refl _) zN)
 have HN0 := kH (BlkA.new0 w)
 cases hl : lexL s.data.toList with
 | error p =>
  have HX : Hid (parseL s.data.toList = .error (p, 9)) := kH (by unfold parseL parseW; rw [hl])
  have CL := kH fun W => lex_err s p W hs hl
  clear hl
  go_enter Tryz.func11, Tryz.ntmps11
  go_wp2_with fail
  generalize w.alloc zN = w0 at *
  refine (CL.out _).mono ?_
  rintro e w1 ⟨rfl, hb1⟩
  have HN := kH (HN0.out.below hb1)
  have HB := kH (HB0.out.trans (hb1.mono HB0.out.size))
  clear hb1
  obtain ⟨z0, z1, z2, z3, zk0, zk1, zk2, zk3⟩ := HN.out.cells
  go_wp2_with fail
  refine bodyPost_ret (v := .tuple #[An.val An.zero, .int .i64 (p : Int), .int .i64 9]) (by simp [results, Tryz.results11, go_sem, An.val, An.zero, z0, z1, z2, z3]) rfl ?_
  rw [HX.out]
  exact ⟨below_putA HB.out (Nat.le_refl _) An.zero, rfl⟩
 | ok l =>
  have CL := kH fun W => lex_ok2 s l W hs hl
  have HTL : Hid (Tl (l ++ [endT s.size])) := kH (by have := lex_tl hl s.size; exact this)
  have HLL : Hid (l.length ≤ 4000) := kH (by have := lex_len hl; rw [ba_sz] at this; omega)
  have HX : Hid (parseL s.data.toList = match progP reB (l ++ [endT s.size]) with | .error e => .error e | .ok (t, _) => .ok t) := kH (by
   unfold parseL parseW; rw [hl, ba_sz]; rfl)
  have CP := kH fun K L W hW => pprog_any (K := K) reOk_any (pstmt_all reOk_any) L none W hW
  clear hl
  go_enter Tryz.func11, Tryz.ntmps11
  go_wp2_with fail
  generalize w.alloc zN = w0 at *
  refine (CL.out _).mono ?_
  rintro e w1 ⟨g, c, rfl, ht1, hc1, hg1, hb1⟩
  have HN := kH (HN0.out.below hb1)
  have HB := kH (HB0.out.trans (hb1.mono HB0.out.size))
  have HT := kH ht1
  have HC := kH hc1
  clear hb1 ht1 hc1
  go_wp2_with fail
  have hP : Pst (w1.alloc (.cells #[.slice (some ⟨g, 0, none⟩) (l.length + 1) c, .int .i64 0, .int .i64 0, .bool false, .int .i64 0, .int .i64 0] 42)) ⟨w1.heap.size, g, c, l ++ [endT s.size]⟩ (l ++ [endT s.size]) 0 false none := by
   refine ⟨?_, HT.out.below ((Below.refl _ _).alloc (Nat.le_refl _) _) (Nat.le_refl _), HTL.out, List.suffix_refl _, HTL.out.ne, by have := HLL.out; simp; omega, Nat.ne_of_lt HT.out.lt, fun h => absurd rfl h, fun e h => (by cases h), by have := HC.out; simp; omega⟩
   have := heap_alloc_new w1 (.cells #[.slice (some ⟨g, 0, none⟩) (l.length + 1) c, .int .i64 0, .int .i64 0, .bool false, .int .i64 0, .int .i64 0] 42)
   unfold Rd
   simpa using this
  have HN := kH (HN.out.alloc (.cells #[.slice (some ⟨g, 0, none⟩) (l.length + 1) c, .int .i64 0, .int .i64 0, .bool false, .int .i64 0, .int .i64 0] 42))
  have HB := kH (HB.out.alloc HB.out.size (.cells #[.slice (some ⟨g, 0, none⟩) (l.length + 1) c, .int .i64 0, .int .i64 0, .bool false, .int .i64 0, .int .i64 0] 42))
  have HZ : Hid (w.heap.size < w1.heap.size ∧ w1.heap.size < (w1.alloc (.cells #[.slice (some ⟨g, 0, none⟩) (l.length + 1) c, .int .i64 0, .int .i64 0, .bool false, .int .i64 0, .int .i64 0] 42)).heap.size) := kH ⟨by have := HT.out.lt; have := HB0.out.size; omega, by simp⟩
  have CP := kH (CP.out _ _ _ hP)
  clear hP hg1
  refine CP.out.mono ?_
  clear CP
  generalize w1.alloc (.cells #[.slice (some ⟨g, 0, none⟩) (l.length + 1) c, .int .i64 0, .int .i64 0, .bool false, .int .i64 0, .int .i64 0] 42) = w2 at *
  generalize w1.heap.size = gR at *
  rintro e w3 ⟨t, n, l2, er2, rfl, r2, m2, tr2⟩
  have HN := kH (HN.out.onl m2.2 (show w.heap.size ≠ gR from by have := HZ.out; omega))
  have HB := kH (HB.out.trans (m2.2.below (B := w.heap.size) (Nat.le_of_lt HZ.out.1) HB.out.size))
  have HT3 := kH (tr2.low (B1 := w.heap.size + 1) (by have := HZ.out; omega))
  have HS3 := kH m2.2.size
  have H3 := kH m2.st
  unfold An.val
  have HNV := kH (BlkA.new w3 n)
  have HN := kH (HN.out.alloc (nB n))
  have HB := kH (HB.out.alloc HB.out.size (nB n))
  have H3 := kH (H3.out.alloc (nB n))
  have HT3 := kH (HT3.out.below ((Below.refl _ _).alloc (Nat.le_refl _) (nB n)))
  have HQ : Hid (w.heap.size ≠ w3.heap.size) := kH (by have := HZ.out; have := HS3.out; omega)
  rcases r2.alt with ⟨hx, rfl⟩ | ⟨q, hx, rfl, -⟩
  ·
   have HX : Hid (parseL s.data.toList = .ok t) := kH (by rw [HX.out, hx])
   clear hx r2 m2 tr2 HT
   obtain ⟨c0, c1, c2, c3, c4, c5, f1, f2, f3, f4, f5⟩ := H3.out.rd.cells
   simp only [Option.getD_none] at c4 c5
   obtain ⟨z0, z1, z2, z3, zk0, zk1, zk2, zk3⟩ := HN.out.cells
   obtain ⟨v0, v1, v2, v3, vk0, vk1, vk2, vk3⟩ := HNV.out.cells
   go_wp2_with fail
   refine bodyPost_ret (v := .tuple #[An.val n, .int .i64 0, .int .i64 0]) (by simp [results, Tryz.results11, go_sem, An.val, z0, z1, z2, z3]) rfl ?_
   rw [HX.out]
   exact ⟨below_putA HB.out (Nat.le_refl _) n, n, rfl, (HT3.out.putA (g := w.heap.size) (fun k hk _ => by omega) n).low (Nat.le_succ _)⟩
  ·
   have HX : Hid (parseL s.data.toList = .error q) := kH (by rw [HX.out, hx])
   have hq := H3.out.code q rfl
   clear hx r2 m2 tr2 HT
   obtain ⟨c0, c1, c2, c3, c4, c5, f1, f2, f3, f4, f5⟩ := H3.out.rd.cells
   simp only [Option.getD_some, Option.getD_none] at c4 c5
   obtain ⟨z0, z1, z2, z3, zk0, zk1, zk2, zk3⟩ := HN.out.cells
   obtain ⟨v0, v1, v2, v3, vk0, vk1, vk2, vk3⟩ := HNV.out.cells
   have hz0 : ((q.2 : Int) == 0) = false := by rw [beq_eq_false_iff_ne]; omega
   go_wp2_with fail
   go_region
   all_goals
    go_wp2_with fail
    refine bodyPost_ret (v := .tuple #[An.val An.zero, .int .i64 (q.1 : Int), .int .i64 (q.2 : Int)]) (by simp [results, Tryz.results11, go_sem, An.val, An.zero, z0, z1, z2, z3]) rfl ?_
    rw [HX.out]
    exact ⟨(below_putA HB.out (Nat.le_refl _) An.zero).drew, rfl⟩
end Go.Proofs.YtmbfdkiejneheaaGreatDoor
