/-
  MATHEMATICS of layer 10's search: the leaves whose rest is there; where a match begins, and where the longest one ends.
-/
import Derived.Test.YtjjejcgpeefclaaDoorMtP3M
namespace Go.Proofs.YtjjejcgpeefclaaDoor

section
variable (tk B : Nat → Nat → Prop) (L : Nat → Nat → Prop) (N : Nat)
/-- Leaf x takes the byte at place i, and its rest is there. -/
inductive RowP : Nat → Nat → Prop where
  | last {i x : Nat} (h : i < N) (ht : tk x i) (hl : L (spotN (i + 1) N) x) : RowP i x
  | more {i x y : Nat} (h : i < N) (ht : tk x i) (hb : B x y) (hr : RowP (i + 1) y) : RowP i x
end
section
variable {tk B : Nat → Nat → Prop} {L : Nat → Nat → Prop} {N : Nat}
theorem RowP.lt {i x : Nat} (h : RowP tk B L N i x) : i < N := by cases h <;> assumption
theorem rowP_iff {i x : Nat} (hi : i < N) : RowP tk B L N i x ↔ tk x i ∧ (L (spotN (i + 1) N) x ∨ ∃ y, RowP tk B L N (i + 1) y ∧ B x y) := by
  constructor
  · intro h
    cases h with
    | last h ht hl => exact ⟨ht, .inl hl⟩
    | more h ht hb hr => exact ⟨ht, .inr ⟨_, hr, hb⟩⟩
  · rintro ⟨ht, hl | ⟨y, hr, hb⟩⟩
    · exact .last hi ht hl
    · exact .more hi ht hb hr
theorem rowP_run {i x : Nat} : RowP tk B L N i x ↔ ∃ y j, Run tk B x i y j ∧ j ≤ N ∧ L (spotN j N) y := by
  constructor
  · intro h
    induction h with
    | last h ht hl => exact ⟨_, _, .one ht, by omega, hl⟩
    | more h ht hb hr ih =>
      obtain ⟨y, j, h1, h2, h3⟩ := ih
      exact ⟨y, j, .more ht hb h1, h2, h3⟩
  · rintro ⟨y, j, h1, h2, h3⟩
    induction h1 with
    | one h => exact .last (by omega) h h3
    | more h hb hr ih => exact .more (by have := hr.lt; omega) h hb (ih h2 h3)
/-- A run is cut at any of its places. -/
theorem Run.cut {x i y j : Nat} (h : Run tk B x i y j) : ∀ k, i ≤ k → k < j → ∃ z, Run tk B x i z (k + 1) ∧ (z = y ∧ k + 1 = j ∨ ∃ z2, B z z2 ∧ Run tk B z2 (k + 1) y j) := by
  induction h with
  | @one x i h =>
    intro k h1 h2
    obtain rfl : k = i := by omega
    exact ⟨x, .one h, .inl ⟨rfl, rfl⟩⟩
  | @more x i z y j h hb hr ih =>
    intro k h1 h2
    by_cases hk : k = i
    · subst hk
      exact ⟨x, .one h, .inr ⟨z, hb, hr⟩⟩
    · obtain ⟨z3, h3, h4⟩ := ih k (by omega) h2
      exact ⟨z3, .more h hb h3, h4⟩
theorem Run.snoc {x i y j z : Nat} (h : Run tk B x i y j) (hb : B y z) (ht : tk z j) : Run tk B x i z (j + 1) := h.join hb (.one ht)
theorem Run.unsnoc {x i y j : Nat} (h : Run tk B x i y j) : tk y (j - 1) ∧ (x = y ∧ j = i + 1 ∨ ∃ z, Run tk B x i z (j - 1) ∧ B z y ∧ i < j - 1) := by
  induction h with
  | one h => exact ⟨by simpa using h, .inl ⟨rfl, rfl⟩⟩
  | @more x i z y j h hb hr ih =>
    refine ⟨ih.1, .inr ?_⟩
    have hlt := hr.lt
    rcases ih.2 with ⟨rfl, rfl⟩ | ⟨z3, h3, h4, h5⟩
    · exact ⟨x, .one h, hb, by omega⟩
    · exact ⟨z3, .more h hb h3, h4, by omega⟩
end
/-- What of a text's byte at a place a tree's leaf takes. -/
def tkS (s : ByteArray) (t : RT) (x i : Nat) : Prop := ∃ h : i < s.size, Tks hasP t 0 x s[i].toNat
/-- A set has the byte at a place. -/
def gS (s : ByteArray) (st : W4) (i : Nat) : Prop := ∃ h : i < s.size, hasP st s[i].toNat
mutual
theorem tks_at (s : ByteArray) (i : Nat) (hi : i < s.size) : ∀ (t : RT) (b x : Nat), Tks (gS s) t b x i ↔ Tks hasP t b x s[i].toNat
  | .mk op st ks, b, x => by
    unfold Tks
    split
    · constructor
      · rintro ⟨h, _, h2⟩; exact ⟨h, h2⟩
      · rintro ⟨h, h2⟩; exact ⟨h, hi, h2⟩
    · split
      · exact Iff.rfl
      · exact tksL_at s i hi ks b x
theorem tksL_at (s : ByteArray) (i : Nat) (hi : i < s.size) : ∀ (ks : List RT) (b x : Nat), TksL (gS s) ks b x i ↔ TksL hasP ks b x s[i].toNat
  | [], b, x => by unfold TksL; exact Iff.rfl
  | t :: ts, b, x => by
    unfold TksL
    rw [tks_at s i hi t b x, tksL_at s i hi ts _ x]
end
mutual
theorem tks_in (s : ByteArray) (i : Nat) : ∀ (t : RT) (b x : Nat), Tks (gS s) t b x i → i < s.size
  | .mk op st ks, b, x, h => by
    unfold Tks at h
    split at h
    · exact h.2.1
    · split at h
      · exact h.elim
      · exact tksL_in s i ks b x h
theorem tksL_in (s : ByteArray) (i : Nat) : ∀ (ks : List RT) (b x : Nat), TksL (gS s) ks b x i → i < s.size
  | [], b, x, h => by unfold TksL at h; exact h.elim
  | t :: ts, b, x, h => by
    unfold TksL at h
    rcases h with ⟨_, h⟩ | ⟨_, h⟩
    · exact tks_in s i t b x h
    · exact tksL_in s i ts _ x h
end
theorem tkS_iff (s : ByteArray) (t : RT) (x i : Nat) : tkS s t x i ↔ Tks (gS s) t 0 x i := by
  constructor
  · rintro ⟨h, h2⟩; exact (tks_at s i h t 0 x).2 h2
  · intro h
    have hi := tks_in s i t 0 x h
    exact ⟨hi, (tks_at s i hi t 0 x).1 h⟩
/-- A tree is met by a text from a place to a place. -/
def Met (s : ByteArray) (t : RT) (i j : Nat) : Prop := j ≤ s.size ∧ Lead (gS s) s.size t i j
/-- The leaves of a text's place whose rest is there. -/
abbrev RowS (s : ByteArray) (t : RT) : Nat → Nat → Prop := RowP (tkS s t) (Bhd t 0) (Lst t 0) s.size
theorem met_iff {s : ByteArray} {t : RT} {i j : Nat} : Met s t i j ↔ j ≤ s.size ∧ ((i = j ∧ emp t (spotN i s.size) = true) ∨ ∃ x y, Fst t 0 (spotN i s.size) x ∧ Lst t 0 (spotN j s.size) y ∧ Run (tkS s t) (Bhd t 0) x i y j) := by
  unfold Met
  constructor
  · rintro ⟨h1, h2⟩
    refine ⟨h1, ?_⟩
    rcases (lead_iff (gS s) s.size t 0 i j h1).1 h2 with h | ⟨h, x, y, h3, h4, h5⟩
    · exact .inl h
    · exact .inr ⟨x, y, h3, h4, h5.mono (fun x i h => (tkS_iff s t x i).2 h) (fun _ _ h => h)⟩
  · rintro ⟨h1, h2⟩
    refine ⟨h1, (lead_iff (gS s) s.size t 0 i j h1).2 ?_⟩
    rcases h2 with h | ⟨x, y, h3, h4, h5⟩
    · exact .inl h
    · exact .inr ⟨h5.lt, x, y, h3, h4, h5.mono (fun x i h => (tkS_iff s t x i).1 h) (fun _ _ h => h)⟩
theorem Met.le {s : ByteArray} {t : RT} {i j : Nat} (h : Met s t i j) : i ≤ j := Lead.le _ _ t i j h.2
/-- A match begins at a place. -/
theorem begins_iff {s : ByteArray} {t : RT} {i : Nat} (hi : i ≤ s.size) : (∃ j, Met s t i j) ↔ (emp t (spotN i s.size) = true ∨ ∃ x, Fst t 0 (spotN i s.size) x ∧ RowS s t i x) := by
  constructor
  · rintro ⟨j, h⟩
    obtain ⟨h1, ⟨rfl, h2⟩ | ⟨x, y, h3, h4, h5⟩⟩ := met_iff.1 h
    · exact .inl h2
    · exact .inr ⟨x, h3, rowP_run.2 ⟨y, j, h5, h1, h4⟩⟩
  · rintro (h | ⟨x, h3, h⟩)
    · exact ⟨i, met_iff.2 ⟨hi, .inl ⟨rfl, h⟩⟩⟩
    · obtain ⟨y, j, h5, h1, h4⟩ := rowP_run.1 h
      exact ⟨j, met_iff.2 ⟨h1, .inr ⟨x, y, h3, h4, h5⟩⟩⟩
/-- The leaves that are held behind k bytes of a match that begins at i, and comes to an end. -/
def NowS (s : ByteArray) (t : RT) (i k x : Nat) : Prop := RowS s t k x ∧ ∃ x0, Fst t 0 (spotN i s.size) x0 ∧ Run (tkS s t) (Bhd t 0) x0 i x (k + 1)
theorem now_first {s : ByteArray} {t : RT} {i x : Nat} : NowS s t i i x ↔ Fst t 0 (spotN i s.size) x ∧ RowS s t i x := by
  constructor
  · rintro ⟨h, x0, h1, h2⟩
    obtain ⟨h3, ⟨rfl, _⟩ | ⟨z, _, _, h6⟩⟩ := h2.unsnoc
    · exact ⟨h1, h⟩
    · omega
  · rintro ⟨h1, h⟩
    refine ⟨h, x, h1, .one ?_⟩
    cases h <;> assumption
theorem now_next {s : ByteArray} {t : RT} {i k x : Nat} (hk : i ≤ k) : NowS s t i (k + 1) x ↔ RowS s t (k + 1) x ∧ ∃ y, NowS s t i k y ∧ Bhd t 0 y x := by
  constructor
  · rintro ⟨h, x0, h1, h2⟩
    refine ⟨h, ?_⟩
    obtain ⟨h3, ⟨rfl, h4⟩ | ⟨z, h4, h5, h6⟩⟩ := h2.unsnoc
    · omega
    · have e : k + 1 + 1 - 1 = k + 1 := by omega
      rw [e] at h4 h6
      have htz : tkS s t z k := by
        have := h4.unsnoc.1
        simpa using this
      exact ⟨z, ⟨.more (by have := h.lt; omega) htz h5 h, x0, h1, h4⟩, h5⟩
  · rintro ⟨h, y, ⟨_, x0, h1, h2⟩, h3⟩
    refine ⟨h, x0, h1, h2.snoc h3 ?_⟩
    cases h <;> assumption
/-- A match ends behind k + 1 bytes just if a leaf held there may be its last. -/
theorem now_end {s : ByteArray} {t : RT} {i k : Nat} (hk : i ≤ k) : (∃ x, NowS s t i k x ∧ Lst t 0 (spotN (k + 1) s.size) x) ↔ Met s t i (k + 1) := by
  constructor
  · rintro ⟨x, ⟨h, x0, h1, h2⟩, h3⟩
    exact met_iff.2 ⟨by have := h.lt; omega, .inr ⟨x0, x, h1, h3, h2⟩⟩
  · intro h
    obtain ⟨h1, ⟨h2, _⟩ | ⟨x, y, h3, h4, h5⟩⟩ := met_iff.1 h
    · omega
    · refine ⟨y, ⟨.last (by omega) ?_ h4, x, h3, h5⟩, h4⟩
      have := h5.unsnoc.1
      simpa using this
theorem now_none {s : ByteArray} {t : RT} {i k : Nat} (hk : i ≤ k) (h : ∀ x, ¬ NowS s t i k x) : ∀ j, k < j → ¬ Met s t i j := by
  intro j hj hm
  obtain ⟨h1, ⟨h2, _⟩ | ⟨x, y, h3, h4, h5⟩⟩ := met_iff.1 hm
  · omega
  · obtain ⟨z, h6, h7⟩ := h5.cut k hk hj
    refine h z ⟨?_, x, h3, h6⟩
    have htz : tkS s t z k := by
      have := h6.unsnoc.1
      simpa using this
    rcases h7 with ⟨rfl, rfl⟩ | ⟨z2, hb, hr⟩
    · exact .last (by omega) htz h4
    · exact .more (by have := hr.lt; omega) htz hb (rowP_run.2 ⟨y, j, hr, h1, h4⟩)
end Go.Proofs.YtjjejcgpeefclaaDoor
