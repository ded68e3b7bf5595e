/-
  MATHEMATICS of RegexQuoted: a text of bytes that are themselves, each behind a backslash where it wants one, is the bytes one behind the other.
-/
import Derived.Test.YtjjejcgpeefclaaDoorMtA
namespace Go.Proofs.YtjjejcgpeefclaaDoor

/-- A byte that wants no backslash. -/
def wordB (c : UInt8) : Bool := digB c || letB c || decide (c.toNat < 32) || decide (126 < c.toNat)
def quB (c : UInt8) : List UInt8 := if wordB c then [c] else [92, c]
def quL (l : List UInt8) : List UInt8 := l.flatMap quB
def oneT (c : UInt8) : RT := .mk 1 (withW W4.zero c) []
theorem quL_nil : quL [] = [] := rfl
theorem quL_cons (c : UInt8) (l : List UInt8) : quL (c :: l) = quB c ++ quL l := by simp [quL]
theorem quL_snoc (l : List UInt8) (c : UInt8) : quL (l ++ [c]) = quL l ++ quB c := by simp [quL]
theorem quB_len (c : UInt8) : (quB c).length ≤ 2 := by unfold quB; split <;> simp
theorem quL_len (l : List UInt8) : (quL l).length ≤ 2 * l.length := by
  induction l with
  | nil => simp [quL]
  | cons c l ih => rw [quL_cons, List.length_append, List.length_cons]; have := quB_len c; omega
theorem u8b (c : UInt8) (p : Nat → Bool) (h : ∀ n < 256, p n = true) : p c.toNat = true := h _ c.toNat_lt
theorem word_plain (c : UInt8) (h : wordB c = true) : c ≠ 124 ∧ c ≠ 41 ∧ signB c = false ∧ c ≠ 40 ∧ c ≠ 91 ∧ c ≠ 46 ∧ c ≠ 94 ∧ c ≠ 36 ∧ c ≠ 92 := by
  refine ⟨?_, ?_, ?_, ?_, ?_, ?_, ?_, ?_, ?_⟩
  case refine_3 =>
    rw [Bool.eq_false_iff]
    intro h2
    unfold signB at h2
    have : c = 42 ∨ c = 43 ∨ c = 63 := by simpa [or_assoc] using h2
    rcases this with rfl | rfl | rfl <;> exact absurd h (by decide)
  all_goals (rintro rfl; exact absurd h (by decide))
theorem esc_self (c : UInt8) (h : wordB c = false) : escB c = some c := by
  unfold wordB at h
  simp only [Bool.or_eq_false_iff, decide_eq_false_iff_not] at h
  obtain ⟨⟨⟨h1, h2⟩, h3⟩, h4⟩ := h
  have n1 : c ≠ 110 := by rintro rfl; exact absurd h2 (by decide)
  have n2 : c ≠ 116 := by rintro rfl; exact absurd h2 (by decide)
  unfold escB
  rw [if_neg (by rw [UInt8.lt_iff_toNat_lt, UInt8.lt_iff_toNat_lt]; exact fun h => h.elim h3 h4), if_neg n1, if_neg n2, h1, h2]
  rfl
theorem thing_qu (G : List UInt8 → PR RT) (c : UInt8) (l : List UInt8) : thingR withW notW orW G (quB c ++ l) = .ok (oneT c, l) := by
  unfold quB
  cases h : wordB c with
  | true =>
    obtain ⟨a1, a2, a3, a4, a5, a6, a7, a8, a9⟩ := word_plain c h
    rw [if_pos rfl]
    show thingR withW notW orW G (c :: l) = _
    simp only [thingR]
    rw [if_neg a4, if_neg a5, if_neg a6, if_neg a7, if_neg a8]
    have : nextR (c :: l) = .ok (c, l) := by simp only [nextR]; rw [if_neg a9]
    rw [this]; rfl
  | false =>
    rw [if_neg (by simp)]
    show thingR withW notW orW G (92 :: c :: l) = _
    simp only [thingR]
    rw [if_neg (by decide), if_neg (by decide), if_neg (by decide), if_neg (by decide), if_neg (by decide)]
    have : nextR (92 :: c :: l) = .ok (c, l) := by simp only [nextR, if_true, esc_self c h]
    rw [this]; rfl
theorem part_qu (G : List UInt8 → PR RT) : ∀ (l : List UInt8) (f : Nat) (ts : List RT), l.length < f → partLoop withW notW orW G f (quL l) ts = .ok (ts ++ l.map oneT, [])
  | [], f, ts, hf => by
    obtain ⟨f, rfl⟩ : ∃ g, f = g + 1 := ⟨f - 1, by simp at hf; omega⟩
    rw [quL_nil]; unfold partLoop; simp
  | c :: l, f, ts, hf => by
    obtain ⟨f, rfl⟩ : ∃ g, f = g + 1 := ⟨f - 1, by simp at hf; omega⟩
    rw [quL_cons]
    obtain ⟨x, r, hx, hx1, hx2, hx3⟩ : ∃ x r, quB c ++ quL l = x :: r ∧ ¬ (x = 124 ∨ x = 41) ∧ signB x = false ∧ True := by
      unfold quB
      cases h : wordB c with
      | true =>
        obtain ⟨a1, a2, a3, _⟩ := word_plain c h
        exact ⟨c, quL l, rfl, fun h => h.elim a1 a2, a3, trivial⟩
      | false => exact ⟨92, c :: quL l, rfl, by decide, by decide, trivial⟩
    have ht := thing_qu G c (quL l)
    rw [hx] at ht ⊢
    unfold partLoop
    simp only
    rw [if_neg hx1, if_neg (by rw [hx2]; simp), ht]
    show partLoop withW notW orW G f (quL l) (ts ++ [oneT c]) = _
    rw [part_qu G l f _ (by simp only [List.length_cons] at hf; omega)]
    simp
def quT (l : List UInt8) : RT := gatherR 2 (l.map oneT)
theorem qu_len_ge (l : List UInt8) : l.length ≤ (quL l).length := by
  induction l with
  | nil => simp
  | cons c l ih =>
    rw [quL_cons, List.length_append, List.length_cons]
    have : 1 ≤ (quB c).length := by unfold quB; split <;> simp
    omega
theorem top_qu (l : List UInt8) : topR withW notW orW (quL l) = .ok (quT l, []) := by
  unfold topR
  rw [patR_eq]
  unfold patX
  rw [partR_eq, part_qu _ l _ [] (by have := qu_len_ge l; omega)]
  rfl
end Go.Proofs.YtjjejcgpeefclaaDoor
