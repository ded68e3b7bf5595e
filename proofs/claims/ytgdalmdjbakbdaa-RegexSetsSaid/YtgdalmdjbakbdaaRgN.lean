/-
  MATHEMATICS of layer 9's laws: a pattern that is one set.
-/
import Derived.Test.YtgdalmdjbakbdaaRgA
namespace Go.Proofs.Ytgdalmdjbakbdaa

theorem spanR_n {n m : Nat} {l : List UInt8} {x : W4 × List UInt8} (h : spanR withW n l = .ok x) : spanR withW m l = .ok x := by
  unfold spanR at h ⊢
  rcases l with _ | ⟨c, r⟩
  · exact h
  · simp only at h ⊢
    cases hx : nextR (c :: r) with
    | error y => rw [hx] at h; cases h
    | ok y =>
      rw [hx] at h
      obtain ⟨lo, r1⟩ := y
      simp only at h ⊢
      by_cases hd : dashB r1 = true
      · rw [if_pos hd] at h ⊢
        cases hy : nextR (r1.drop 1) with
        | error z => rw [hy] at h; cases h
        | ok z =>
          rw [hy] at h
          obtain ⟨hi, r2⟩ := z
          simp only at h ⊢
          by_cases hlt : hi < lo
          · rw [if_pos hlt] at h; cases h
          · rw [if_neg hlt] at h ⊢; exact h
      · rw [if_neg hd] at h ⊢; exact h
theorem setLoop_n {n m : Nat} : ∀ (f : Nat) (l : List UInt8) (s : W4) (x : W4 × List UInt8), setLoop withW orW n f l s = .ok x → setLoop withW orW m f l s = .ok x
  | 0, l, s, x, h => by cases h
  | f + 1, l, s, x, h => by
    unfold setLoop at h ⊢
    rcases l with _ | ⟨c, r⟩
    · cases h
    · simp only at h ⊢
      by_cases hc : c = 93
      · rw [if_pos hc] at h ⊢; exact h
      · rw [if_neg hc] at h ⊢
        cases hx : spanR withW n (c :: r) with
        | error y => rw [hx] at h; cases h
        | ok y =>
          rw [hx] at h
          rw [spanR_n (m := m) hx]
          obtain ⟨t, r2⟩ := y
          exact setLoop_n f r2 _ x h
theorem setX_n {n m : Nat} {l : List UInt8} {x : W4 × List UInt8} (h : setX n l = .ok x) : setX m l = .ok x := by
  unfold setX at h ⊢
  cases hx : spanR withW n l with
  | error y => rw [hx] at h; cases h
  | ok y =>
    rw [hx] at h
    rw [spanR_n (m := m) hx]
    obtain ⟨t, r⟩ := y
    exact setLoop_n _ _ _ _ h
/-- Two things or more, or one with a sign. -/
def Bad1 (ts : List RT) : Prop := 2 ≤ ts.length ∨ ∃ t, ts = [t] ∧ 4 ≤ t.op
theorem bad_sign {ts : List RT} (h : 1 ≤ ts.length) (k : Nat) (hk : 4 ≤ k) (t : RT) : Bad1 (ts.dropLast ++ [.mk k W4.zero [t]]) := by
  rcases ts with _ | ⟨a, _ | ⟨b, l⟩⟩
  · simp at h
  · exact .inr ⟨_, rfl, hk⟩
  · exact .inl (by simp)
theorem often_ge (c : UInt8) : 4 ≤ oftenR c := by unfold oftenR; split <;> (try split) <;> omega
theorem bad_loop {G : List UInt8 → PR RT} : ∀ (f : Nat) (l : List UInt8) (ts us : List RT) (r : List UInt8), Bad1 ts → partLoop withW notW orW G f l ts = .ok (us, r) → Bad1 us
  | 0, l, ts, us, r, _, h => by cases h
  | f + 1, l, ts, us, r, hb, h => by
    have hl : 1 ≤ ts.length := by
      rcases hb with h | ⟨t, rfl, _⟩
      · omega
      · simp
    unfold partLoop at h
    rcases l with _ | ⟨c, l⟩
    · cases h; exact hb
    · simp only at h
      split at h
      · cases h; exact hb
      · split at h
        · split at h
          · cases h
          · exact bad_loop f _ _ _ _ (bad_sign hl _ (often_ge c) _) h
        · split at h
          · cases h
          · exact bad_loop f _ _ _ _ (.inl (by simp; omega)) h
theorem bad_gather {ts : List RT} (h : Bad1 ts) : (gatherR 2 ts).op ≠ 1 := by
  rcases h with h | ⟨t, rfl, h⟩
  · rcases ts with _ | ⟨a, _ | ⟨b, l⟩⟩
    · simp at h
    · simp at h
    · show (2 : Nat) ≠ 1; omega
  · show t.op ≠ 1; omega
theorem patLoop_grow {G : List UInt8 → PR RT} : ∀ (f : Nat) (l : List UInt8) (ts us : List RT) (r : List UInt8), patLoop withW notW orW G f l ts = .ok (us, r) → ts.length ≤ us.length ∧ (us.length = ts.length → us = ts ∧ r = l)
  | 0, l, ts, us, r, h => by cases h
  | f + 1, l, ts, us, r, h => by
    unfold patLoop at h
    rcases l with _ | ⟨c, l⟩
    · cases h; exact ⟨Nat.le_refl _, fun _ => ⟨rfl, rfl⟩⟩
    · simp only at h
      split at h
      · split at h
        · cases h
        · have := (patLoop_grow f _ _ _ _ h).1
          simp at this
          exact ⟨by omega, fun e => by omega⟩
      · cases h; exact ⟨Nat.le_refl _, fun _ => ⟨rfl, rfl⟩⟩
theorem thing91 (G : List UInt8 → PR RT) (l : List UInt8) : thingR withW notW orW G (91 :: l) = setR withW notW orW l := rfl
/-- One thing that takes a byte, of a text that begins with a bracket. -/
theorem one_set {l : List UInt8} {t : RT} {r : List UInt8} (h : topR withW notW orW (91 :: l) = .ok (t, r)) (ht : t.op = 1) (hd : l.head? ≠ some 94) : ∃ s2, setX (l.length + 1) l = .ok (s2, []) ∧ t = .mk 1 s2 [] := by
  unfold topR at h
  rw [patR_eq] at h
  unfold patX at h
  rw [partR_eq] at h
  have hstep : partLoop withW notW orW (grpR withW notW orW 20) ((91 :: l).length + 1) (91 :: l) [] = match setR withW notW orW l with
      | .error x => .error x
      | .ok (t, r2) => partLoop withW notW orW (grpR withW notW orW 20) (l.length + 1) r2 [t] := by
    show partLoop withW notW orW (grpR withW notW orW 20) (l.length + 1 + 1) (91 :: l) [] = _
    conv => lhs; unfold partLoop
    simp only
    rw [if_neg (by decide), if_neg (by decide)]
    rw [thing91]
    cases setR withW notW orW l with
    | error x => rfl
    | ok x => rfl
  rw [hstep, setR_eq, if_neg hd, decide_eq_false hd] at h
  cases hx : setX (l.length + 1) l with
  | error y => rw [hx] at h; simp [setF, partF] at h
  | ok y =>
    obtain ⟨s2, r2⟩ := y
    rw [hx] at h
    simp only [setF] at h
    rw [if_neg (by simp)] at h
    cases hp : partLoop withW notW orW (grpR withW notW orW 20) (l.length + 1) r2 [.mk 1 s2 []] with
    | error z => rw [hp] at h; simp [partF] at h
    | ok z =>
      obtain ⟨us, r3⟩ := z
      rw [hp] at h
      simp only [partF] at h
      cases hq : patLoop withW notW orW (grpR withW notW orW 20) (r3.length + 1) r3 [gatherR 2 us] with
      | error z => rw [hq] at h; simp at h
      | ok z =>
        obtain ⟨vs, r4⟩ := z
        rw [hq] at h
        simp only at h
        have h4 : r4 = [] ∧ gatherR 3 vs = t := by
          rcases r4 with _ | ⟨c, r4⟩
          · simp only at h; cases h; exact ⟨rfl, rfl⟩
          · simp only at h; cases h
        obtain ⟨rfl, h5⟩ := h4
        have hg := patLoop_grow _ _ _ _ _ hq
        have hv1 : vs.length = 1 := by
          rcases vs with _ | ⟨a, _ | ⟨b, l'⟩⟩
          · simp at hg
          · rfl
          · exfalso
            rw [← h5] at ht
            exact absurd ht (by show (3 : Nat) ≠ 1; omega)
        obtain ⟨h6, h7⟩ := hg.2 hv1
        rw [h6] at h5
        have h8 : gatherR 2 us = t := h5
        rcases r2 with _ | ⟨c, r2⟩
        · have : partLoop withW notW orW (grpR withW notW orW 20) (l.length + 1) [] [.mk 1 s2 []] = .ok ([.mk 1 s2 []], []) := rfl
          rw [this] at hp
          cases hp
          exact ⟨s2, rfl, h8.symm⟩
        · exfalso
          unfold partLoop at hp
          simp only at hp
          split at hp
          · cases hp; cases h7
          · split at hp
            · have hb := bad_loop _ _ _ _ _ (bad_sign (ts := [.mk 1 s2 []]) (by simp) _ (often_ge c) _) hp
              exact bad_gather hb (by rw [h8]; exact ht)
            · split at hp
              · cases hp
              · have hb := bad_loop _ _ _ _ _ (.inl (by simp)) hp
                exact bad_gather hb (by rw [h8]; exact ht)
/-- .. and of the set that begins with the other sign. -/
theorem not_set {l : List UInt8} {s2 : W4} {n : Nat} (h : setX n l = .ok (s2, [])) : topR withW notW orW (91 :: 94 :: l) = .ok (.mk 1 (notW s2) [], []) := by
  have hs : setR withW notW orW (94 :: l) = .ok (.mk 1 (notW s2) [], []) := by
    rw [setR_eq]
    rw [if_pos (show (94 :: l).head? = some 94 from rfl), show (94 :: l).drop 1 = l from rfl, setX_n h]
    rfl
  unfold topR
  rw [patR_eq]
  unfold patX
  rw [partR_eq]
  have hstep : partLoop withW notW orW (grpR withW notW orW 20) ((91 :: 94 :: l).length + 1) (91 :: 94 :: l) [] = .ok ([.mk 1 (notW s2) []], []) := by
    show partLoop withW notW orW (grpR withW notW orW 20) ((94 :: l).length + 1 + 1) (91 :: 94 :: l) [] = _
    unfold partLoop
    simp only
    rw [if_neg (by decide), if_neg (by decide)]
    rw [thing91, hs]
    rfl
  rw [hstep]
  rfl
end Go.Proofs.Ytgdalmdjbakbdaa
