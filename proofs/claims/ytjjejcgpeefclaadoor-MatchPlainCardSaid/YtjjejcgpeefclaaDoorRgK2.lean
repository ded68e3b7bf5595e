/-
  MATHEMATICS of layer 9: a pattern in brackets, with signs behind it: the pattern, with the signs; or too deep.
-/
import Derived.Test.YtjjejcgpeefclaaDoorRgK
namespace Go.Proofs.YtjjejcgpeefclaaDoor

section
variable {wW : W4 → UInt8 → W4} {nW : W4 → W4} {oW : W4 → W4 → W4}

/-- What one reads the other reads, or finds too deep. -/
def Dp {α : Type} (a b : PR α) : Prop := ∀ y, a = .ok y → b = .ok y ∨ ∃ p, b = .error (p, 14)
theorem thing_dp {G G' : List UInt8 → PR RT} (hG : ∀ l, Dp (G l) (G' l)) (c : UInt8) (l : List UInt8) : Dp (thingR wW nW oW G (c :: l)) (thingR wW nW oW G' (c :: l)) := by
  intro y h
  simp only [thingR] at h ⊢
  split at h
  · rename_i h1; rw [if_pos h1]; exact hG _ _ h
  · rename_i h1; rw [if_neg h1]; exact .inl h
theorem part_dp {G G' : List UInt8 → PR RT} (hG : ∀ l, Dp (G l) (G' l)) : ∀ (f : Nat) (l : List UInt8) (ts : List RT), Dp (partLoop wW nW oW G f l ts) (partLoop wW nW oW G' f l ts)
  | 0, l, ts => fun y h => by cases h
  | f + 1, l, ts => fun y h => by
    rcases l with _ | ⟨c, l⟩
    · exact .inl h
    · unfold partLoop at h ⊢
      simp only at h ⊢
      by_cases h1 : c = 124 ∨ c = 41
      · rw [if_pos h1] at h ⊢; exact .inl h
      · rw [if_neg h1] at h ⊢
        by_cases h2 : signB c = true
        · rw [if_pos h2] at h ⊢
          cases hg : ts.getLast? with
          | none => rw [hg] at h; cases h
          | some t =>
            rw [hg] at h
            exact part_dp hG f l _ y h
        · rw [if_neg h2] at h ⊢
          cases ht : thingR wW nW oW G (c :: l) with
          | error z => rw [ht] at h; cases h
          | ok z =>
            obtain ⟨t, r2⟩ := z
            rw [ht] at h
            rcases thing_dp hG c l _ ht with h3 | ⟨p, h3⟩
            · rw [h3]; exact part_dp hG f r2 _ y h
            · rw [h3]; exact .inr ⟨p, rfl⟩
theorem partR_dp {G G' : List UInt8 → PR RT} (hG : ∀ l, Dp (G l) (G' l)) (l : List UInt8) : Dp (partR wW nW oW G l) (partR wW nW oW G' l) := by
  intro y h
  unfold partR at h ⊢
  cases hp : partLoop wW nW oW G (l.length + 1) l [] with
  | error z => rw [hp] at h; cases h
  | ok z =>
    rw [hp] at h
    rcases part_dp hG _ _ _ _ hp with h3 | ⟨p, h3⟩
    · rw [h3]; exact .inl h
    · rw [h3]; exact .inr ⟨p, rfl⟩
theorem pat_dp {G G' : List UInt8 → PR RT} (hG : ∀ l, Dp (G l) (G' l)) : ∀ (f : Nat) (l : List UInt8) (ts : List RT), Dp (patLoop wW nW oW G f l ts) (patLoop wW nW oW G' f l ts)
  | 0, l, ts => fun y h => by cases h
  | f + 1, l, ts => fun y h => by
    rcases l with _ | ⟨c, l⟩
    · exact .inl h
    · unfold patLoop at h ⊢
      simp only at h ⊢
      by_cases h1 : c = 124
      · rw [if_pos h1] at h ⊢
        cases hp : partR wW nW oW G l with
        | error z => rw [hp] at h; cases h
        | ok z =>
          obtain ⟨t, r2⟩ := z
          rw [hp] at h
          rcases partR_dp hG l _ hp with h3 | ⟨p, h3⟩
          · rw [h3]; exact pat_dp hG f r2 _ y h
          · rw [h3]; exact .inr ⟨p, rfl⟩
      · rw [if_neg h1] at h ⊢; exact .inl h
theorem patR_dp {G G' : List UInt8 → PR RT} (hG : ∀ l, Dp (G l) (G' l)) (l : List UInt8) : Dp (patR wW nW oW G l) (patR wW nW oW G' l) := by
  intro y h
  unfold patR at h ⊢
  cases hp : partR wW nW oW G l with
  | error z => rw [hp] at h; cases h
  | ok z =>
    obtain ⟨t, r⟩ := z
    rw [hp] at h
    rcases partR_dp hG l _ hp with h3 | ⟨p, h3⟩
    · rw [h3]
      simp only at h ⊢
      cases hq : patLoop wW nW oW G (r.length + 1) r [t] with
      | error z => rw [hq] at h; cases h
      | ok z =>
        rw [hq] at h
        rcases pat_dp hG _ _ _ _ hq with h4 | ⟨p, h4⟩
        · rw [h4]; exact .inl h
        · rw [h4]; exact .inr ⟨p, rfl⟩
    · rw [h3]; exact .inr ⟨p, rfl⟩
theorem grp_dp : ∀ (d : Nat) (l : List UInt8), Dp (grpR wW nW oW (d + 1) l) (grpR wW nW oW d l)
  | 0, l => fun y _ => .inr ⟨_, rfl⟩
  | d + 1, l => fun y h => by
    have e : ∀ (d : Nat), grpR wW nW oW (d + 1) l = match patR wW nW oW (grpR wW nW oW d) l with
        | .error x => .error x
        | .ok (t, r) => match r with
          | [] => .error (l.length + 1, 9)
          | c :: r2 => if c = 41 then .ok (t, r2) else .error (l.length + 1, 9) := fun d => by
      conv => lhs; unfold grpR
      cases patR wW nW oW (grpR wW nW oW d) l with
      | error x => rfl
      | ok x => obtain ⟨t, r⟩ := x; cases r <;> rfl
    rw [e] at h
    rw [e]
    cases hp : patR wW nW oW (grpR wW nW oW (d + 1)) l with
    | error z => rw [hp] at h; cases h
    | ok z =>
      rw [hp] at h
      rcases patR_dp (grp_dp d) l _ hp with h3 | ⟨p, h3⟩
      · rw [h3]; exact .inl h
      · rw [h3]; exact .inr ⟨p, rfl⟩
/-- Signs behind a thing. -/
def signsT (t : RT) (x : List UInt8) : RT := x.foldl (fun t c => .mk (oftenR c) W4.zero [t]) t
theorem part_signs (G : List UInt8 → PR RT) : ∀ (x : List UInt8) (f : Nat) (t : RT), (∀ c ∈ x, signB c = true) → x.length < f → partLoop wW nW oW G f x [t] = .ok ([signsT t x], [])
  | [], f, t, _, hf => by
    obtain ⟨f, rfl⟩ : ∃ g, f = g + 1 := ⟨f - 1, by simp at hf; omega⟩
    rfl
  | c :: x, f, t, hx, hf => by
    obtain ⟨f, rfl⟩ : ∃ g, f = g + 1 := ⟨f - 1, by simp at hf; omega⟩
    have hc := hx c (by simp)
    have h1 : ¬ (c = 124 ∨ c = 41) := by
      rintro (rfl | rfl) <;> exact absurd hc (by decide)
    unfold partLoop
    simp only
    rw [if_neg h1, if_pos hc]
    show partLoop wW nW oW G f x [.mk (oftenR c) W4.zero [t]] = _
    rw [part_signs G x f _ (fun d hd => hx d (by simp [hd])) (by simp only [List.length_cons] at hf; omega)]
    rfl
/-- A pattern in brackets, and signs behind it. -/
theorem group_top {l r : List UInt8} {t : RT} (h : topR wW nW oW l = .ok (t, r)) :
    (∀ x : List UInt8, (∀ c ∈ x, signB c = true) → topR wW nW oW (40 :: (l ++ 41 :: x)) = .ok (signsT t x, [])) ∨ (∀ x : List UInt8, ∃ p, topR wW nW oW (40 :: (l ++ 41 :: x)) = .error (p, 14)) := by
  have hp : patR wW nW oW (grpR wW nW oW 20) l = .ok (t, []) := by
    unfold topR at h
    cases hp : patR wW nW oW (grpR wW nW oW 20) l with
    | error z => rw [hp] at h; cases h
    | ok z =>
      obtain ⟨t1, r1⟩ := z
      rw [hp] at h
      rcases r1 with _ | ⟨c, r1⟩
      · cases h; rfl
      · cases h
  have hpart : ∀ (x : List UInt8) (z : PR RT), grpR wW nW oW 20 (l ++ 41 :: x) = z → partLoop wW nW oW (grpR wW nW oW 20) ((40 :: (l ++ 41 :: x)).length + 1) (40 :: (l ++ 41 :: x)) [] = match z with
      | .error y => .error y
      | .ok (t, r2) => partLoop wW nW oW (grpR wW nW oW 20) ((l ++ 41 :: x).length + 1) r2 [t] := fun x z hz => by
    show partLoop wW nW oW (grpR wW nW oW 20) ((l ++ 41 :: x).length + 1 + 1) (40 :: (l ++ 41 :: x)) [] = _
    conv => lhs; unfold partLoop
    simp only
    rw [if_neg (by decide), if_neg (by decide)]
    rw [show thingR wW nW oW (grpR wW nW oW 20) (40 :: (l ++ 41 :: x)) = grpR wW nW oW 20 (l ++ 41 :: x) from rfl, hz]
    cases z with
    | error y => rfl
    | ok y => rfl
  rcases patR_dp (grp_dp 19) l _ hp with h3 | ⟨p, h3⟩
  · left
    intro x hx
    have hg : grpR wW nW oW 20 (l ++ 41 :: x) = .ok (t, x) := by
      show (match patR wW nW oW (grpR wW nW oW 19) (l ++ 41 :: x) with
        | .error x => .error x
        | .ok (t, r) => match r with
          | [] => .error ((l ++ 41 :: x).length + 1, 9)
          | c :: r2 => if c = 41 then .ok (t, r2) else .error ((l ++ 41 :: x).length + 1, 9) : PR RT) = _
      rw [patR_sfx (grp_sfx 19) (41 :: x) h3 (.inr ⟨x, rfl⟩)]
      rfl
    have h4 := hpart x _ hg
    simp only at h4
    rw [part_signs _ x _ t hx (by simp; omega)] at h4
    unfold topR patR partR
    rw [h4]
    rfl
  · right
    intro x
    obtain ⟨q, hq⟩ := patR_e14 (grp_sfx 19) (grp_e14 19) (41 :: x) h3
    have hg : grpR wW nW oW 20 (l ++ 41 :: x) = .error (q, 14) := by
      show (match patR wW nW oW (grpR wW nW oW 19) (l ++ 41 :: x) with
        | .error x => .error x
        | .ok (t, r) => match r with
          | [] => .error ((l ++ 41 :: x).length + 1, 9)
          | c :: r2 => if c = 41 then .ok (t, r2) else .error ((l ++ 41 :: x).length + 1, 9) : PR RT) = _
      rw [hq]
    have h4 := hpart x _ hg
    simp only at h4
    refine ⟨q, ?_⟩
    unfold topR patR partR
    rw [h4]
end
end Go.Proofs.YtjjejcgpeefclaaDoor
