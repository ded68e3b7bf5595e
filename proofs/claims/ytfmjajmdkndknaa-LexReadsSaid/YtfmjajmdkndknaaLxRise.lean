/-
  MATHEMATICS of layer 11: the places of tokens rise; an error's place lies in the text.
-/
import Derived.Test.YtfmjajmdkndknaaLxM
namespace Go.Proofs.Ytfmjajmdkndknaa

theorem kind_pos (a b : List UInt8) : kindL a b ≠ 0 := by
  unfold kindL
  split
  · decide
  · split
    · decide
    · split
      · decide
      · split <;> decide
theorem step_kind {rx : Bool} {l : List UInt8} {k : Nat} {t : List UInt8} {z : Nat} (h : stepL rx l = .tok k t z) : k ≠ 0 := by
  cases l with
  | nil => cases h
  | cons c r =>
    rw [step_cons] at h
    have hq : ∀ j q, j ≠ 0 → St.ofQ j q = .tok k t z → k ≠ 0 := fun j q hj e => by cases q <;> simp [St.ofQ] at e; obtain ⟨rfl, _⟩ := e; exact hj
    split at h
    · cases h; decide
    split at h
    · exact hq 3 _ (by decide) h
    split at h
    · exact hq 4 _ (by decide) h
    split at h
    · injection h with h1 h2 h3; rw [← h1]; exact kind_pos _ _
    split at h
    · cases h; decide
    split at h
    · cases h; decide
    · cases h
/-- What Lex's tokens are like. -/
def Rise (p q : Nat) : List Tok → Prop
  | [] => True
  | t :: r => p ≤ t.a ∧ t.a < q ∧ t.k ≠ 0 ∧ Rise (t.a + 1) q r
theorem Rise.mono {p p' q : Nat} : ∀ {r : List Tok}, Rise p q r → p' ≤ p → Rise p' q r
  | [], _, _ => trivial
  | _ :: _, h, hp => ⟨by have := h.1; omega, h.2⟩
theorem lexF_rise : ∀ (n : Nat) (rx : Bool) (p : Nat) (l : List UInt8) (r : List Tok), lexF n rx p l = .ok r → Rise p (p + l.length) r
  | 0, _, _, _, r, h => by cases h; trivial
  | n + 1, rx, p, l, r, h => by
    unfold lexF at h
    cases hst : stepL rx (l.drop (blankL l)) with
    | eof => rw [hst] at h; cases h; trivial
    | bad o => rw [hst] at h; cases h
    | tok k t z =>
      rw [hst] at h
      simp only [] at h
      have h1 := (step_le rx _).1 _ _ _ hst
      have h2 : (l.drop (blankL l)).length = l.length - blankL l := List.length_drop
      have h3 := blank_le l
      cases hx : lexF n (rxA k t) (p + blankL l + z) (l.drop (blankL l + z)) with
      | error e => rw [hx] at h; cases h
      | ok r' =>
        rw [hx] at h
        cases h
        have ih := lexF_rise n _ _ _ _ hx
        have h4 : (l.drop (blankL l + z)).length = l.length - (blankL l + z) := List.length_drop
        rw [h4, show p + blankL l + z + (l.length - (blankL l + z)) = p + l.length from by omega] at ih
        exact ⟨by show p ≤ p + blankL l; omega, by show p + blankL l < _; omega, step_kind hst, ih.mono (by show p + blankL l + 1 ≤ _; omega)⟩
theorem lexF_err : ∀ (n : Nat) (rx : Bool) (p : Nat) (l : List UInt8) (e : Nat), lexF n rx p l = .error e → e < p + l.length
  | 0, _, _, _, _, h => by cases h
  | n + 1, rx, p, l, e, h => by
    unfold lexF at h
    have h2 : (l.drop (blankL l)).length = l.length - blankL l := List.length_drop
    have h3 := blank_le l
    cases hst : stepL rx (l.drop (blankL l)) with
    | eof => rw [hst] at h; cases h
    | bad o => rw [hst] at h; cases h; have := (step_le rx _).2 _ hst; omega
    | tok k t z =>
      rw [hst] at h
      simp only [] at h
      have h1 := (step_le rx _).1 _ _ _ hst
      cases hx : lexF n (rxA k t) (p + blankL l + z) (l.drop (blankL l + z)) with
      | ok r' => rw [hx] at h; cases h
      | error e' =>
        rw [hx] at h
        cases h
        have ih := lexF_err n _ _ _ _ hx
        have h4 : (l.drop (blankL l + z)).length = l.length - (blankL l + z) := List.length_drop
        omega
theorem Rise.at : ∀ {p q : Nat} {r : List Tok} (_ : Rise p q r) (i : Nat) (hi : i < r.length), r[i].k ≠ 0 ∧ p ≤ r[i].a ∧ r[i].a < q ∧ (∀ _ : 0 < i, (r[i - 1]'(Nat.lt_of_le_of_lt (Nat.sub_le _ _) hi)).a < r[i].a)
  | _, _, t :: r, h, 0, _ => ⟨h.2.2.1, h.1, h.2.1, fun h => absurd h (by omega)⟩
  | p, q, t :: r, h, i + 1, hi => by
    have hi' : i < r.length := by simpa using hi
    obtain ⟨h1, h2, h3, h4⟩ := Rise.at h.2.2.2 i hi'
    have hp := h.1
    refine ⟨h1, by simp; omega, h3, fun _ => ?_⟩
    cases i with
    | zero => simp at h2 ⊢; omega
    | succ i => simpa using h4 (by omega)
/-- The row of all tokens, End the last. -/
theorem rise_row {n : Nat} {r : List Tok} (h : Rise 0 n r) (i : Nat) (hi : i < (r ++ [(⟨0, [], n⟩ : Tok)]).length) :
    (((r ++ [(⟨0, [], n⟩ : Tok)])[i]'hi).k = 0 ↔ i = r.length) ∧ (∀ _ : 0 < i, ((r ++ [(⟨0, [], n⟩ : Tok)])[i - 1]'(Nat.lt_of_le_of_lt (Nat.sub_le _ _) hi)).a < ((r ++ [(⟨0, [], n⟩ : Tok)])[i]'hi).a) := by
  rw [List.length_append, List.length_singleton] at hi
  by_cases hr : i < r.length
  · obtain ⟨h1, _, _, h4⟩ := h.at i hr
    refine ⟨⟨fun e => ?_, fun e => by omega⟩, fun h0 => ?_⟩
    · rw [List.getElem_append_left hr] at e; exact absurd e h1
    · rw [List.getElem_append_left hr, List.getElem_append_left (by omega)]; exact h4 h0
  · obtain rfl : i = r.length := by omega
    refine ⟨⟨fun _ => rfl, fun _ => by simp⟩, fun h0 => ?_⟩
    rw [List.getElem_append_left (by omega), List.getElem_append_right (Nat.le_refl _)]
    simpa using (h.at (r.length - 1) (by omega)).2.2.1
theorem Rise.len : ∀ {p q : Nat} {r : List Tok}, Rise p q r → p ≤ q → p + r.length ≤ q
  | _, _, [], _, hp => hp
  | _, _, _ :: _, h, _ => by
    have := h.2.2.2.len (by have := h.2.1; omega)
    have := h.1
    simp only [List.length_cons]; omega
end Go.Proofs.Ytfmjajmdkndknaa
