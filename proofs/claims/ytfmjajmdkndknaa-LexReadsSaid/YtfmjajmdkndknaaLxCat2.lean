/-
  MATHEMATICS of layer 11: Lex of a text with something behind it.
-/
import Derived.Test.YtfmjajmdkndknaaLxCat
namespace Go.Proofs.Ytfmjajmdkndknaa

theorem step_nil {rx : Bool} {l : List UInt8} (h : stepL rx l = .eof) : l = [] := by
  cases l with
  | nil => rfl
  | cons c t =>
    exfalso
    rw [step_cons] at h
    have hq : ∀ k q, St.ofQ k q ≠ .eof := fun k q => by cases q <;> intro e <;> cases e
    split at h
    · cases h
    split at h
    · exact hq _ _ h
    split at h
    · exact hq _ _ h
    split at h
    · cases h
    split at h
    · cases h
    split at h <;> cases h
theorem except_map_map {f g : List Tok → List Tok} (x : Except Nat (List Tok)) : (x.map f).map g = x.map (fun r => g (f r)) := by cases x <;> rfl
/-- What a step of a text with more behind it is. -/
theorem lexF_step_app {c : UInt8} {y : List UInt8} {rx : Bool} {p N : Nat} {l : List UInt8} {k : Nat} {t : List UInt8} {z : Nat} (hc : Cut10 c l) (hst : stepL rx (l.drop (blankL l)) = .tok k t z) (hN : (l ++ c :: y).length < N) :
    lexF N rx p (l ++ c :: y) = (lexF N (rxA k t) (p + blankL l + z) (l.drop (blankL l + z) ++ c :: y)).map (⟨k, t, p + blankL l⟩ :: ·) := by
  have h1 := (step_le rx _).1 _ _ _ hst
  have h2 : (l.drop (blankL l)).length = l.length - blankL l := List.length_drop
  have h3 := blank_le l
  have hb := blank_app (y := y) l hc (by omega)
  have hd : (l ++ c :: y).drop (blankL (l ++ c :: y)) = l.drop (blankL l) ++ c :: y := by rw [hb, List.drop_append_of_le_length h3]
  have hs : stepL rx ((l ++ c :: y).drop (blankL (l ++ c :: y))) = .tok k t z := by rw [hd]; exact step_app hc.ne hst
  rw [lexF_tok hs hN, hb, List.drop_append_of_le_length (by omega)]
theorem lexF_10 (b : List UInt8) : ∀ (n : Nat) (rx : Bool) (p : Nat) (l : List UInt8) (r : List Tok), lexF n rx p l = .ok r → l.length < n → Cut10 10 l → ∀ N, (l ++ 10 :: b).length < N →
    lexF N rx p (l ++ 10 :: b) = (lexF N true (p + l.length + 1) b).map (fun q => r ++ ⟨1, [], p + l.length⟩ :: q)
  | 0, _, _, _, _, _, h, _, _, _ => by omega
  | n + 1, rx, p, l, r, h, hn, hc, N, hN => by
    have h3 := blank_le l
    have h2 : (l.drop (blankL l)).length = l.length - blankL l := List.length_drop
    unfold lexF at h
    cases hst : stepL rx (l.drop (blankL l)) with
    | bad o => rw [hst] at h; cases h
    | eof =>
      rw [hst] at h
      cases h
      have he := step_nil hst
      rw [he] at h2
      simp only [List.length_nil] at h2
      have hb := blank_all10 (y := b) l hc (by omega)
      have hd : (l ++ 10 :: b).drop (blankL (l ++ 10 :: b)) = 10 :: b := by rw [hb, List.drop_left]
      have hs : stepL rx ((l ++ 10 :: b).drop (blankL (l ++ 10 :: b))) = .tok 1 [] 1 := by rw [hd, step_cons, if_pos rfl]
      rw [lexF_tok hs hN, hb, show (l ++ 10 :: b).drop (l.length + 1) = b from by rw [← List.drop_drop, List.drop_left]; rfl]
      rfl
    | tok k t z =>
      rw [hst] at h
      simp only [] at h
      have h1 := (step_le rx _).1 _ _ _ hst
      have h4 : (l.drop (blankL l + z)).length = l.length - (blankL l + z) := List.length_drop
      cases hx : lexF n (rxA k t) (p + blankL l + z) (l.drop (blankL l + z)) with
      | error e => rw [hx] at h; cases h
      | ok r' =>
        rw [hx] at h
        cases h
        rw [List.length_append, List.length_cons] at hN
        rw [lexF_step_app hc hst (by rw [List.length_append, List.length_cons]; omega),
          lexF_10 b n _ _ _ _ hx (by omega) (hc.drop _) N (by rw [List.length_append, List.length_cons]; omega), except_map_map, h4,
          show p + blankL l + z + (l.length - (blankL l + z)) = p + l.length from by omega]
        rfl
theorem lexF_x {c : UInt8} {y : List UInt8} (hx : blankL (c :: y) = (c :: y).length) (h10 : (10 : UInt8) ∉ c :: y) (hc : c = 32) : ∀ (n : Nat) (rx : Bool) (p : Nat) (l : List UInt8) (r : List Tok), lexF n rx p l = .ok r → l.length < n → ∀ N, (l ++ c :: y).length < N →
    lexF N rx p (l ++ c :: y) = .ok r
  | 0, _, _, _, _, _, h, _, _ => by omega
  | n + 1, rx, p, l, r, h, hn, N, hN => by
    have h3 := blank_le l
    have h2 : (l.drop (blankL l)).length = l.length - blankL l := List.length_drop
    unfold lexF at h
    cases hst : stepL rx (l.drop (blankL l)) with
    | bad o => rw [hst] at h; cases h
    | eof =>
      rw [hst] at h
      cases h
      have he := step_nil hst
      rw [he] at h2
      simp only [List.length_nil] at h2
      have hb := blank_allx hx h10 l (by omega)
      have hd : (l ++ c :: y).drop (blankL (l ++ c :: y)) = [] := List.drop_eq_nil_of_le (by rw [hb, List.length_append]; exact Nat.le_refl _)
      rw [lexF_eof (by rw [hd]; rfl)]
    | tok k t z =>
      rw [hst] at h
      simp only [] at h
      have h1 := (step_le rx _).1 _ _ _ hst
      have h4 : (l.drop (blankL l + z)).length = l.length - (blankL l + z) := List.length_drop
      cases hx' : lexF n (rxA k t) (p + blankL l + z) (l.drop (blankL l + z)) with
      | error e => rw [hx'] at h; cases h
      | ok r' =>
        rw [hx'] at h
        cases h
        rw [List.length_append, List.length_cons] at hN
        rw [lexF_step_app (.inl hc) hst (by rw [List.length_append, List.length_cons]; omega),
          lexF_x hx h10 hc n _ _ _ _ hx' (by omega) N (by rw [List.length_append, List.length_cons]; omega)]
        rfl
def Tok.by (d : Nat) (t : Tok) : Tok := ⟨t.k, t.t, t.a + d⟩
theorem lexF_by (d : Nat) : ∀ (n : Nat) (rx : Bool) (p : Nat) (l : List UInt8) (r : List Tok), lexF n rx p l = .ok r → lexF n rx (p + d) l = .ok (r.map (Tok.by d))
  | 0, _, _, _, _, h => by cases h; rfl
  | n + 1, rx, p, l, r, h => by
    unfold lexF at h ⊢
    cases hst : stepL rx (l.drop (blankL l)) with
    | bad o => rw [hst] at h; cases h
    | eof => rw [hst] at h; cases h; rfl
    | tok k t z =>
      rw [hst] at h
      simp only [] at h ⊢
      cases hx : lexF n (rxA k t) (p + blankL l + z) (l.drop (blankL l + z)) with
      | error e => rw [hx] at h; cases h
      | ok r' =>
        rw [hx] at h
        cases h
        rw [show p + d + blankL l + z = p + blankL l + z + d from by omega, lexF_by d n _ _ _ _ hx, show p + d + blankL l = p + blankL l + d from by omega]
        rfl
/-- P11.3. -/
theorem lex_lines {a b : List UInt8} {ra rb : List Tok} (ha : lexL a = .ok ra) (hb : lexL b = .ok rb) (h92 : a.getLast? ≠ some 92) :
    lexL (a ++ 10 :: b) = .ok (ra ++ ⟨1, [], a.length⟩ :: rb.map (Tok.by (a.length + 1))) := by
  unfold lexL at ha hb ⊢
  rw [lexF_10 b _ _ _ _ _ ha (Nat.lt_succ_self _) (.inr ⟨rfl, h92⟩) _ (Nat.lt_succ_self _)]
  have h := lexF_by (a.length + 1) _ _ _ _ _ hb
  rw [lexF_more (b.length + 1) ((a ++ 10 :: b).length + 1) _ _ _ (by omega) (by rw [List.length_append, List.length_cons]; omega)] at h
  rw [show 0 + a.length + 1 = 0 + (a.length + 1) from by omega, h]
  simp [Except.map]
/-- P11.2. -/
theorem lex_blanks {a note : List UInt8} {ra : List Tok} (ha : lexL a = .ok ra) (h10 : (10 : UInt8) ∉ note) : lexL (a ++ 32 :: 9 :: 35 :: note) = .ok ra := by
  unfold lexL at ha ⊢
  refine lexF_x ?_ ?_ rfl _ _ _ _ _ ha (Nat.lt_succ_self _) _ (Nat.lt_succ_self _)
  · rw [blank_cons, if_pos (.inl rfl), blank_cons, if_pos (.inr (.inl rfl)), blank_cons, if_neg (by decide), if_neg (by decide), if_pos rfl, blank_allx.cmt_whole note h10]
    simp only [List.length_cons]; omega
  · simp [h10]
end Go.Proofs.Ytfmjajmdkndknaa
