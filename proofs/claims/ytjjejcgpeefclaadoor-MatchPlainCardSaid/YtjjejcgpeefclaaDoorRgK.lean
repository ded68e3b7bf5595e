/-
  MATHEMATICS of layer 9: what is read stays read where more text stands behind it; one bracket more is read alike, or is too deep.
-/
import Derived.Test.YtjjejcgpeefclaaDoorRgM
namespace Go.Proofs.YtjjejcgpeefclaaDoor

section
variable {wW : W4 → UInt8 → W4} {nW : W4 → W4} {oW : W4 → W4 → W4}

theorem next_sfx {l r : List UInt8} {c : UInt8} (x : List UInt8) (h : nextR l = .ok (c, r)) : nextR (l ++ x) = .ok (c, r ++ x) := by
  rcases l with _ | ⟨a, l⟩
  · cases h
  · rw [List.cons_append]
    simp only [nextR] at h ⊢
    by_cases ha : a = 92
    · rw [if_pos ha] at h ⊢
      rcases l with _ | ⟨e, l⟩
      · cases h
      · rw [List.cons_append]
        simp only at h ⊢
        cases he : escB e with
        | none => rw [he] at h; cases h
        | some y => rw [he] at h; cases h; rfl
    · rw [if_neg ha] at h ⊢
      cases h; rfl
theorem dash_sfx {r : List UInt8} (x : List UInt8) (h1 : r ≠ []) (h2 : r ≠ [45]) : dashB (r ++ x) = dashB r := by
  rcases r with _ | ⟨a, _ | ⟨b, r⟩⟩
  · exact absurd rfl h1
  · have ha : (a == 45) = false := by rw [Bool.eq_false_iff]; intro h; exact h2 (by rw [eq_of_beq h])
    rcases x with _ | ⟨y, x⟩
    · rfl
    · show (a == 45 && y != 93) = false
      rw [ha]; rfl
  · rfl
theorem span_sfx {n m : Nat} {c : UInt8} {l r : List UInt8} {t : W4} (x : List UInt8) (h : spanR wW n (c :: l) = .ok (t, r)) (h1 : r ≠ []) (h2 : r ≠ [45]) : spanR wW m (c :: l ++ x) = .ok (t, r ++ x) := by
  rw [List.cons_append]
  simp only [spanR] at h ⊢
  cases hx : nextR (c :: l) with
  | error y => rw [hx] at h; cases h
  | ok y =>
    obtain ⟨lo, r1⟩ := y
    have hx2 := next_sfx x hx
    rw [List.cons_append] at hx2
    rw [hx] at h
    rw [hx2]
    simp only at h ⊢
    by_cases hd : dashB r1 = true
    · rw [if_pos hd] at h
      have hd2 : dashB (r1 ++ x) = true := by
        rw [dash_sfx x (by rintro rfl; simp [dashB] at hd) (by rintro rfl; simp [dashB] at hd)]; exact hd
      rw [if_pos hd2]
      have hdr : (r1 ++ x).drop 1 = r1.drop 1 ++ x := by
        rcases r1 with _ | ⟨a, r1⟩
        · simp [dashB] at hd
        · rfl
      rw [hdr]
      cases hy : nextR (r1.drop 1) with
      | error z => rw [hy] at h; cases h
      | ok z =>
        obtain ⟨hi, r2⟩ := z
        rw [hy] at h
        rw [next_sfx x hy]
        simp only at h ⊢
        by_cases hlt : hi < lo
        · rw [if_pos hlt] at h; cases h
        · rw [if_neg hlt] at h ⊢
          cases h; rfl
    · rw [if_neg hd] at h
      cases h
      rw [if_neg (by rw [dash_sfx x h1 h2]; exact hd)]
theorem loop_ne {n f : Nat} {r : List UInt8} {s : W4} {y : W4 × List UInt8} (h : setLoop wW oW n f r s = .ok y) : r ≠ [] ∧ r ≠ [45] := by
  constructor
  · rintro rfl
    cases f with
    | zero => cases h
    | succ f => cases h
  · rintro rfl
    cases f with
    | zero => cases h
    | succ f =>
      cases f with
      | zero => cases h
      | succ f => cases h
theorem loop_sfx {n m : Nat} (x : List UInt8) (k : Nat) : ∀ (f : Nat) (l : List UInt8) (s t : W4) (r : List UInt8), setLoop wW oW n f l s = .ok (t, r) → setLoop wW oW m (f + k) (l ++ x) s = .ok (t, r ++ x)
  | 0, l, s, t, r, h => by cases h
  | f + 1, l, s, t, r, h => by
    rw [show f + 1 + k = (f + k) + 1 from by omega]
    rcases l with _ | ⟨c, l⟩
    · cases h
    · rw [List.cons_append]
      unfold setLoop at h ⊢
      simp only at h ⊢
      by_cases hc : c = 93
      · rw [if_pos hc] at h ⊢
        cases h; rfl
      · rw [if_neg hc] at h ⊢
        cases hx : spanR wW n (c :: l) with
        | error y => rw [hx] at h; cases h
        | ok y =>
          obtain ⟨u, r2⟩ := y
          rw [hx] at h
          simp only at h
          have hne := loop_ne h
          have hs := span_sfx (m := m) x hx hne.1 hne.2
          rw [List.cons_append] at hs
          rw [hs]
          exact loop_sfx x k f r2 _ t r h
theorem set_sfx {l r : List UInt8} {t : RT} (x : List UInt8) (h : setR wW nW oW l = .ok (t, r)) : setR wW nW oW (l ++ x) = .ok (t, r ++ x) := by
  rcases l with _ | ⟨c, l⟩
  · exfalso
    simp only [setR] at h
    cases h
  · have key : ∀ (nt : Bool) (c : UInt8) (l : List UInt8) (n m : Nat),
        (match spanR wW n (c :: l) with
          | .error y => (.error y : PR RT)
          | .ok (s, r) => match setLoop wW oW n (r.length + 1) r s with
            | .error y => .error y
            | .ok (s2, r2) => .ok (.mk 1 (if nt then nW s2 else s2) [], r2)) = .ok (t, r) →
        (match spanR wW m (c :: l ++ x) with
          | .error y => (.error y : PR RT)
          | .ok (s, r) => match setLoop wW oW m (r.length + 1) r s with
            | .error y => .error y
            | .ok (s2, r2) => .ok (.mk 1 (if nt then nW s2 else s2) [], r2)) = .ok (t, r ++ x) := by
      intro nt c l n m h
      cases hx : spanR wW n (c :: l) with
      | error y => rw [hx] at h; cases h
      | ok y =>
        obtain ⟨u, r2⟩ := y
        rw [hx] at h
        simp only at h
        cases hy : setLoop wW oW n (r2.length + 1) r2 u with
        | error z => rw [hy] at h; cases h
        | ok z =>
          obtain ⟨v, r3⟩ := z
          rw [hy] at h
          simp only at h
          have hne := loop_ne hy
          rw [span_sfx (m := m) x hx hne.1 hne.2]
          simp only
          rw [List.length_append, show r2.length + x.length + 1 = r2.length + 1 + x.length from by omega, loop_sfx (m := m) x x.length _ _ _ _ _ hy]
          cases h; rfl
    rw [List.cons_append]
    unfold setR at h ⊢
    simp only at h ⊢
    by_cases hc : c = 94
    · subst hc
      rw [if_pos (show (94 :: l).head? = some 94 from rfl), show (94 :: l).drop 1 = l from rfl] at h
      rw [if_pos (show (94 :: (l ++ x)).head? = some 94 from rfl), show (94 :: (l ++ x)).drop 1 = l ++ x from rfl]
      rcases l with _ | ⟨c, l⟩
      · exfalso; cases h
      · exact key _ c l _ _ h
    · have hh : (c :: l).head? ≠ some 94 := by simp [hc]
      have hh2 : (c :: (l ++ x)).head? ≠ some 94 := by simp [hc]
      rw [if_neg hh, decide_eq_false hh] at h
      rw [if_neg hh2, decide_eq_false hh2]
      have := key false c l ((c :: l).length + 1) ((c :: (l ++ x)).length + 1) h
      rw [List.cons_append] at this
      exact this
/-- What is read stays read. -/
def Sfx (G : List UInt8 → PR RT) : Prop := ∀ (l r x : List UInt8) (t : RT), G l = .ok (t, r) → G (l ++ x) = .ok (t, r ++ x)
/-- What is too deep stays so. -/
def E14 (G : List UInt8 → PR RT) : Prop := ∀ (l x : List UInt8) (p : Nat), G l = .error (p, 14) → ∃ q, G (l ++ x) = .error (q, 14)
theorem thing_sfx {G : List UInt8 → PR RT} (hG : Sfx G) {c : UInt8} {l r : List UInt8} {t : RT} (x : List UInt8) (h : thingR wW nW oW G (c :: l) = .ok (t, r)) : thingR wW nW oW G (c :: l ++ x) = .ok (t, r ++ x) := by
  rw [List.cons_append]
  simp only [thingR] at h ⊢
  split at h
  · rename_i h1; rw [if_pos h1]; exact hG _ _ _ _ h
  · rename_i h1; rw [if_neg h1]
    split at h
    · rename_i h2; rw [if_pos h2]; exact set_sfx x h
    · rename_i h2; rw [if_neg h2]
      split at h
      · rename_i h3; rw [if_pos h3]; cases h; rfl
      · rename_i h3; rw [if_neg h3]
        split at h
        · rename_i h4; rw [if_pos h4]; cases h; rfl
        · rename_i h4; rw [if_neg h4]
          split at h
          · rename_i h5; rw [if_pos h5]; cases h; rfl
          · rename_i h5; rw [if_neg h5]
            cases hx : nextR (c :: l) with
            | error y => rw [hx] at h; cases h
            | ok y =>
              obtain ⟨b, r2⟩ := y
              rw [hx] at h
              have := next_sfx x hx
              rw [List.cons_append] at this
              rw [this]
              cases h; rfl
theorem next_e {l : List UInt8} {p k : Nat} (h : nextR l = .error (p, k)) : k ≠ 14 := by
  rcases l with _ | ⟨a, l⟩
  · cases h; omega
  · simp only [nextR] at h
    split at h
    · split at h
      · cases h; omega
      · split at h
        · cases h; omega
        · cases h
    · cases h
theorem span_e {n : Nat} {l : List UInt8} {p k : Nat} (h : spanR wW n l = .error (p, k)) : k ≠ 14 := by
  rcases l with _ | ⟨a, l⟩
  · cases h
  · simp only [spanR] at h
    split at h
    · rename_i y hy
      cases h
      exact next_e hy
    · split at h
      · split at h
        · rename_i y hy
          cases h
          exact next_e hy
        · split at h
          · cases h; omega
          · cases h
      · cases h
theorem loop_e {n : Nat} : ∀ (f : Nat) (l : List UInt8) (s : W4) (p k : Nat), setLoop wW oW n f l s = .error (p, k) → k ≠ 14
  | 0, l, s, p, k, h => by cases h; omega
  | f + 1, l, s, p, k, h => by
    unfold setLoop at h
    rcases l with _ | ⟨c, l⟩
    · cases h; omega
    · simp only at h
      split at h
      · cases h
      · split at h
        · rename_i y hy
          cases h
          exact span_e hy
        · exact loop_e f _ _ _ _ h
theorem set_e {l : List UInt8} {p k : Nat} (h : setR wW nW oW l = .error (p, k)) : k ≠ 14 := by
  unfold setR at h
  simp only at h
  generalize (if l.head? = some 94 then l.drop 1 else l) = l1 at h
  split at h
  · rename_i y hy
    cases h
    exact span_e hy
  · split at h
    · rename_i y hy
      cases h
      exact loop_e _ _ _ _ _ hy
    · cases h
theorem thing_e14 {G : List UInt8 → PR RT} (hG : E14 G) {c : UInt8} {l : List UInt8} {p : Nat} (x : List UInt8) (h : thingR wW nW oW G (c :: l) = .error (p, 14)) : ∃ q, thingR wW nW oW G (c :: l ++ x) = .error (q, 14) := by
  rw [List.cons_append]
  simp only [thingR] at h ⊢
  split at h
  · rename_i h1; rw [if_pos h1]; exact hG _ _ _ h
  · split at h
    · exact absurd rfl (set_e h)
    · split at h
      · cases h
      · split at h
        · cases h
        · split at h
          · cases h
          · split at h
            · rename_i y hy
              cases h
              exact absurd rfl (next_e hy)
            · cases h
theorem part_sfx {G : List UInt8 → PR RT} (hG : Sfx G) (x : List UInt8) (k : Nat) : ∀ (f : Nat) (l : List UInt8) (ts us : List RT) (r : List UInt8), partLoop wW nW oW G f l ts = .ok (us, r) → (r ≠ [] ∨ ∃ y, x = 41 :: y) → partLoop wW nW oW G (f + k) (l ++ x) ts = .ok (us, r ++ x)
  | 0, l, ts, us, r, h, _ => by cases h
  | f + 1, l, ts, us, r, h, hr => by
    rw [show f + 1 + k = (f + k) + 1 from by omega]
    rcases l with _ | ⟨c, l⟩
    · cases h
      obtain ⟨y, rfl⟩ : ∃ y, x = 41 :: y := by
        rcases hr with h | h
        · exact absurd rfl h
        · exact h
      rfl
    · rw [List.cons_append]
      unfold partLoop at h ⊢
      simp only at h ⊢
      by_cases h1 : c = 124 ∨ c = 41
      · rw [if_pos h1] at h ⊢
        cases h; rfl
      · rw [if_neg h1] at h ⊢
        by_cases h2 : signB c = true
        · rw [if_pos h2] at h ⊢
          cases hg : ts.getLast? with
          | none => rw [hg] at h; cases h
          | some t =>
            rw [hg] at h
            exact part_sfx hG x k f l _ us r h hr
        · rw [if_neg h2] at h ⊢
          cases ht : thingR wW nW oW G (c :: l) with
          | error y => rw [ht] at h; cases h
          | ok y =>
            obtain ⟨t, r2⟩ := y
            rw [ht] at h
            have := thing_sfx hG x ht
            rw [List.cons_append] at this
            rw [this]
            exact part_sfx hG x k f r2 _ us r h hr
theorem part_e14 {G : List UInt8 → PR RT} (hG : Sfx G) (hE : E14 G) (x : List UInt8) (k : Nat) : ∀ (f : Nat) (l : List UInt8) (ts : List RT) (p : Nat), partLoop wW nW oW G f l ts = .error (p, 14) → ∃ q, partLoop wW nW oW G (f + k) (l ++ x) ts = .error (q, 14)
  | 0, l, ts, p, h => by cases h
  | f + 1, l, ts, p, h => by
    rw [show f + 1 + k = (f + k) + 1 from by omega]
    rcases l with _ | ⟨c, l⟩
    · cases h
    · rw [List.cons_append]
      unfold partLoop at h ⊢
      simp only at h ⊢
      by_cases h1 : c = 124 ∨ c = 41
      · rw [if_pos h1] at h; cases h
      · rw [if_neg h1] at h ⊢
        by_cases h2 : signB c = true
        · rw [if_pos h2] at h ⊢
          cases hg : ts.getLast? with
          | none => rw [hg] at h; cases h
          | some t =>
            rw [hg] at h
            exact part_e14 hG hE x k f l _ p h
        · rw [if_neg h2] at h ⊢
          cases ht : thingR wW nW oW G (c :: l) with
          | error y =>
            rw [ht] at h
            cases h
            obtain ⟨q, hq⟩ := thing_e14 hE x ht
            rw [List.cons_append] at hq
            rw [hq]
            exact ⟨q, rfl⟩
          | ok y =>
            obtain ⟨t, r2⟩ := y
            rw [ht] at h
            have := thing_sfx hG x ht
            rw [List.cons_append] at this
            rw [this]
            exact part_e14 hG hE x k f r2 _ p h
theorem partR_sfx {G : List UInt8 → PR RT} (hG : Sfx G) {l r : List UInt8} {t : RT} (x : List UInt8) (h : partR wW nW oW G l = .ok (t, r)) (hr : r ≠ [] ∨ ∃ y, x = 41 :: y) : partR wW nW oW G (l ++ x) = .ok (t, r ++ x) := by
  unfold partR at h ⊢
  cases hp : partLoop wW nW oW G (l.length + 1) l [] with
  | error y => rw [hp] at h; cases h
  | ok y =>
    obtain ⟨us, r2⟩ := y
    rw [hp] at h
    cases h
    rw [List.length_append, show l.length + x.length + 1 = l.length + 1 + x.length from by omega, part_sfx hG x x.length _ _ _ _ _ hp hr]
theorem partR_e14 {G : List UInt8 → PR RT} (hG : Sfx G) (hE : E14 G) {l : List UInt8} {p : Nat} (x : List UInt8) (h : partR wW nW oW G l = .error (p, 14)) : ∃ q, partR wW nW oW G (l ++ x) = .error (q, 14) := by
  unfold partR at h ⊢
  cases hp : partLoop wW nW oW G (l.length + 1) l [] with
  | error y =>
    rw [hp] at h
    cases h
    obtain ⟨q, hq⟩ := part_e14 hG hE x x.length _ _ _ _ hp
    rw [List.length_append, show l.length + x.length + 1 = l.length + 1 + x.length from by omega, hq]
    exact ⟨q, rfl⟩
  | ok y => rw [hp] at h; cases h
theorem pat_sfx {G : List UInt8 → PR RT} (hG : Sfx G) (x : List UInt8) (k : Nat) : ∀ (f : Nat) (l : List UInt8) (ts us : List RT) (r : List UInt8), patLoop wW nW oW G f l ts = .ok (us, r) → (r ≠ [] ∨ ∃ y, x = 41 :: y) → patLoop wW nW oW G (f + k) (l ++ x) ts = .ok (us, r ++ x)
  | 0, l, ts, us, r, h, _ => by cases h
  | f + 1, l, ts, us, r, h, hr => by
    rw [show f + 1 + k = (f + k) + 1 from by omega]
    rcases l with _ | ⟨c, l⟩
    · cases h
      obtain ⟨y, rfl⟩ : ∃ y, x = 41 :: y := by
        rcases hr with h | h
        · exact absurd rfl h
        · exact h
      rfl
    · rw [List.cons_append]
      unfold patLoop at h ⊢
      simp only at h ⊢
      by_cases h1 : c = 124
      · rw [if_pos h1] at h ⊢
        cases hp : partR wW nW oW G l with
        | error y => rw [hp] at h; cases h
        | ok y =>
          obtain ⟨t, r2⟩ := y
          rw [hp] at h
          simp only at h
          have hr2 : r2 ≠ [] ∨ ∃ y, x = 41 :: y := by
            rcases r2 with _ | ⟨a, r2⟩
            · cases f with
              | zero => cases h
              | succ f => cases h; exact hr
            · exact .inl (by simp)
          rw [partR_sfx hG x hp hr2]
          exact pat_sfx hG x k f r2 _ us r h hr
      · rw [if_neg h1] at h ⊢
        cases h; rfl
theorem pat_e14 {G : List UInt8 → PR RT} (hG : Sfx G) (hE : E14 G) (x : List UInt8) (k : Nat) : ∀ (f : Nat) (l : List UInt8) (ts : List RT) (p : Nat), patLoop wW nW oW G f l ts = .error (p, 14) → ∃ q, patLoop wW nW oW G (f + k) (l ++ x) ts = .error (q, 14)
  | 0, l, ts, p, h => by cases h
  | f + 1, l, ts, p, h => by
    rw [show f + 1 + k = (f + k) + 1 from by omega]
    rcases l with _ | ⟨c, l⟩
    · cases h
    · rw [List.cons_append]
      unfold patLoop at h ⊢
      simp only at h ⊢
      by_cases h1 : c = 124
      · rw [if_pos h1] at h ⊢
        cases hp : partR wW nW oW G l with
        | error y =>
          rw [hp] at h
          cases h
          obtain ⟨q, hq⟩ := partR_e14 hG hE x hp
          rw [hq]
          exact ⟨q, rfl⟩
        | ok y =>
          obtain ⟨t, r2⟩ := y
          rw [hp] at h
          simp only at h
          have hr2 : r2 ≠ [] := by
            rintro rfl
            cases f with
            | zero => cases h
            | succ f => cases h
          rw [partR_sfx hG x hp (.inl hr2)]
          exact pat_e14 hG hE x k f r2 _ p h
      · rw [if_neg h1] at h; cases h
theorem patR_sfx {G : List UInt8 → PR RT} (hG : Sfx G) {l r : List UInt8} {t : RT} (x : List UInt8) (h : patR wW nW oW G l = .ok (t, r)) (hr : r ≠ [] ∨ ∃ y, x = 41 :: y) : patR wW nW oW G (l ++ x) = .ok (t, r ++ x) := by
  unfold patR at h ⊢
  cases hp : partR wW nW oW G l with
  | error y => rw [hp] at h; cases h
  | ok y =>
    obtain ⟨t1, r1⟩ := y
    rw [hp] at h
    simp only at h
    cases hq : patLoop wW nW oW G (r1.length + 1) r1 [t1] with
    | error z => rw [hq] at h; cases h
    | ok z =>
      obtain ⟨us, r2⟩ := z
      rw [hq] at h
      cases h
      have hr1 : r1 ≠ [] ∨ ∃ y, x = 41 :: y := by
        rcases r1 with _ | ⟨a, r1⟩
        · cases hq; exact hr
        · exact .inl (by simp)
      rw [partR_sfx hG x hp hr1]
      simp only
      rw [List.length_append, show r1.length + x.length + 1 = r1.length + 1 + x.length from by omega, pat_sfx hG x x.length _ _ _ _ _ hq hr]
theorem patR_e14 {G : List UInt8 → PR RT} (hG : Sfx G) (hE : E14 G) {l : List UInt8} {p : Nat} (x : List UInt8) (h : patR wW nW oW G l = .error (p, 14)) : ∃ q, patR wW nW oW G (l ++ x) = .error (q, 14) := by
  unfold patR at h ⊢
  cases hp : partR wW nW oW G l with
  | error y =>
    rw [hp] at h
    cases h
    obtain ⟨q, hq⟩ := partR_e14 hG hE x hp
    rw [hq]
    exact ⟨q, rfl⟩
  | ok y =>
    obtain ⟨t1, r1⟩ := y
    rw [hp] at h
    simp only at h
    cases hq : patLoop wW nW oW G (r1.length + 1) r1 [t1] with
    | error z =>
      rw [hq] at h
      cases h
      have hr1 : r1 ≠ [] := by rintro rfl; cases hq
      rw [partR_sfx hG x hp (.inl hr1)]
      simp only
      obtain ⟨q, hq2⟩ := pat_e14 hG hE x x.length _ _ _ _ hq
      rw [List.length_append, show r1.length + x.length + 1 = r1.length + 1 + x.length from by omega, hq2]
      exact ⟨q, rfl⟩
    | ok z => rw [hq] at h; cases h
theorem grp_sfx : ∀ d : Nat, Sfx (grpR wW nW oW d)
  | 0 => fun l r x t h => by cases h
  | d + 1 => fun l r x t h => by
    unfold grpR at h ⊢
    cases hp : patR wW nW oW (grpR wW nW oW d) l with
    | error y => rw [hp] at h; cases h
    | ok y =>
      obtain ⟨t1, r1⟩ := y
      rw [hp] at h
      simp only at h
      rcases r1 with _ | ⟨a, r1⟩
      · cases h
      · rw [patR_sfx (grp_sfx d) x hp (.inl (by simp)), List.cons_append]
        simp only at h ⊢
        by_cases ha : a = 41
        · rw [if_pos ha] at h ⊢; cases h; rfl
        · rw [if_neg ha] at h; cases h
theorem grp_e14 : ∀ d : Nat, E14 (grpR wW nW oW d)
  | 0 => fun l x p _ => ⟨(l ++ x).length + 1, rfl⟩
  | d + 1 => fun l x p h => by
    unfold grpR at h ⊢
    cases hp : patR wW nW oW (grpR wW nW oW d) l with
    | error y =>
      rw [hp] at h
      cases h
      obtain ⟨q, hq⟩ := patR_e14 (grp_sfx d) (grp_e14 d) x hp
      rw [hq]
      exact ⟨q, rfl⟩
    | ok y =>
      obtain ⟨t1, r1⟩ := y
      rw [hp] at h
      simp only at h
      rcases r1 with _ | ⟨a, r1⟩
      · cases h
      · simp only at h
        split at h <;> cases h
end
end Go.Proofs.YtjjejcgpeefclaaDoor
