/-
  MATHEMATICS of layer 10's laws: a pattern with | between two others; one between ^( and )$.
-/
import Derived.Test.YtmlpkimbcjkbkaaGreatDoorRgM
import Derived.Test.YtmlpkimbcjkbkaaGreatDoorMtA
namespace Go.Proofs.YtmlpkimbcjkbkaaGreatDoor

section
variable {wW : W4 → UInt8 → W4} {nW : W4 → W4} {oW : W4 → W4 → W4}

theorem next_sfx {l r : List UInt8} {c : UInt8} (x : List UInt8) (h : nextR l = .ok (c, r)) : nextR (l ++ x) = .ok (c, r ++ x) := by
  rcases l with _ | ⟨a, l⟩
  · cases h
  · rw [List.cons_append]
    simp only [nextR] at h ⊢
    by_cases ha : a = 92
    · rw [if_pos ha] at h ⊢
      rcases l with _ | ⟨e, l⟩
      · cases h
      · rw [List.cons_append]
        simp only at h ⊢
        cases he : escB e with
        | none => rw [he] at h; cases h
        | some y => rw [he] at h; cases h; rfl
    · rw [if_neg ha] at h ⊢
      cases h; rfl
theorem dash_sfx {r : List UInt8} (x : List UInt8) (h1 : r ≠ []) (h2 : r ≠ [45]) : dashB (r ++ x) = dashB r := by
  rcases r with _ | ⟨a, _ | ⟨b, r⟩⟩
  · exact absurd rfl h1
  · have ha : (a == 45) = false := by rw [Bool.eq_false_iff]; intro h; exact h2 (by rw [eq_of_beq h])
    rcases x with _ | ⟨y, x⟩
    · rfl
    · show (a == 45 && y != 93) = false
      rw [ha]; rfl
  · rfl
theorem span_sfx {n m : Nat} {c : UInt8} {l r : List UInt8} {t : W4} (x : List UInt8) (h : spanR wW n (c :: l) = .ok (t, r)) (h1 : r ≠ []) (h2 : r ≠ [45]) : spanR wW m (c :: l ++ x) = .ok (t, r ++ x) := by
  rw [List.cons_append]
  simp only [spanR] at h ⊢
  cases hx : nextR (c :: l) with
  | error y => rw [hx] at h; cases h
  | ok y =>
    obtain ⟨lo, r1⟩ := y
    have hx2 := next_sfx x hx
    rw [List.cons_append] at hx2
    rw [hx] at h
    rw [hx2]
    simp only at h ⊢
    by_cases hd : dashB r1 = true
    · rw [if_pos hd] at h
      have hd2 : dashB (r1 ++ x) = true := by
        rw [dash_sfx x (by rintro rfl; simp [dashB] at hd) (by rintro rfl; simp [dashB] at hd)]; exact hd
      rw [if_pos hd2]
      have hdr : (r1 ++ x).drop 1 = r1.drop 1 ++ x := by
        rcases r1 with _ | ⟨a, r1⟩
        · simp [dashB] at hd
        · rfl
      rw [hdr]
      cases hy : nextR (r1.drop 1) with
      | error z => rw [hy] at h; cases h
      | ok z =>
        obtain ⟨hi, r2⟩ := z
        rw [hy] at h
        rw [next_sfx x hy]
        simp only at h ⊢
        by_cases hlt : hi < lo
        · rw [if_pos hlt] at h; cases h
        · rw [if_neg hlt] at h ⊢
          cases h; rfl
    · rw [if_neg hd] at h
      cases h
      rw [if_neg (by rw [dash_sfx x h1 h2]; exact hd)]
theorem loop_ne {n f : Nat} {r : List UInt8} {s : W4} {y : W4 × List UInt8} (h : setLoop wW oW n f r s = .ok y) : r ≠ [] ∧ r ≠ [45] := by
  constructor
  · rintro rfl
    cases f with
    | zero => cases h
    | succ f => cases h
  · rintro rfl
    cases f with
    | zero => cases h
    | succ f =>
      cases f with
      | zero => cases h
      | succ f => cases h
theorem loop_sfx {n m : Nat} (x : List UInt8) (k : Nat) : ∀ (f : Nat) (l : List UInt8) (s t : W4) (r : List UInt8), setLoop wW oW n f l s = .ok (t, r) → setLoop wW oW m (f + k) (l ++ x) s = .ok (t, r ++ x)
  | 0, l, s, t, r, h => by cases h
  | f + 1, l, s, t, r, h => by
    rw [show f + 1 + k = (f + k) + 1 from by omega]
    rcases l with _ | ⟨c, l⟩
    · cases h
    · rw [List.cons_append]
      unfold setLoop at h ⊢
      simp only at h ⊢
      by_cases hc : c = 93
      · rw [if_pos hc] at h ⊢
        cases h; rfl
      · rw [if_neg hc] at h ⊢
        cases hx : spanR wW n (c :: l) with
        | error y => rw [hx] at h; cases h
        | ok y =>
          obtain ⟨u, r2⟩ := y
          rw [hx] at h
          simp only at h
          have hne := loop_ne h
          have hs := span_sfx (m := m) x hx hne.1 hne.2
          rw [List.cons_append] at hs
          rw [hs]
          exact loop_sfx x k f r2 _ t r h
theorem set_sfx {l r : List UInt8} {t : RT} (x : List UInt8) (h : setR wW nW oW l = .ok (t, r)) : setR wW nW oW (l ++ x) = .ok (t, r ++ x) := by
  rcases l with _ | ⟨c, l⟩
  · exfalso
    simp only [setR] at h
    cases h
  · have key : ∀ (nt : Bool) (c : UInt8) (l : List UInt8) (n m : Nat),
        (match spanR wW n (c :: l) with
          | .error y => (.error y : PR RT)
          | .ok (s, r) => match setLoop wW oW n (r.length + 1) r s with
            | .error y => .error y
            | .ok (s2, r2) => .ok (.mk 1 (if nt then nW s2 else s2) [], r2)) = .ok (t, r) →
        (match spanR wW m (c :: l ++ x) with
          | .error y => (.error y : PR RT)
          | .ok (s, r) => match setLoop wW oW m (r.length + 1) r s with
            | .error y => .error y
            | .ok (s2, r2) => .ok (.mk 1 (if nt then nW s2 else s2) [], r2)) = .ok (t, r ++ x) := by
      intro nt c l n m h
      cases hx : spanR wW n (c :: l) with
      | error y => rw [hx] at h; cases h
      | ok y =>
        obtain ⟨u, r2⟩ := y
        rw [hx] at h
        simp only at h
        cases hy : setLoop wW oW n (r2.length + 1) r2 u with
        | error z => rw [hy] at h; cases h
        | ok z =>
          obtain ⟨v, r3⟩ := z
          rw [hy] at h
          simp only at h
          have hne := loop_ne hy
          rw [span_sfx (m := m) x hx hne.1 hne.2]
          simp only
          rw [List.length_append, show r2.length + x.length + 1 = r2.length + 1 + x.length from by omega, loop_sfx (m := m) x x.length _ _ _ _ _ hy]
          cases h; rfl
    rw [List.cons_append]
    unfold setR at h ⊢
    simp only at h ⊢
    by_cases hc : c = 94
    · subst hc
      rw [if_pos (show (94 :: l).head? = some 94 from rfl), show (94 :: l).drop 1 = l from rfl] at h
      rw [if_pos (show (94 :: (l ++ x)).head? = some 94 from rfl), show (94 :: (l ++ x)).drop 1 = l ++ x from rfl]
      rcases l with _ | ⟨c, l⟩
      · exfalso; cases h
      · exact key _ c l _ _ h
    · have hh : (c :: l).head? ≠ some 94 := by simp [hc]
      have hh2 : (c :: (l ++ x)).head? ≠ some 94 := by simp [hc]
      rw [if_neg hh, decide_eq_false hh] at h
      rw [if_neg hh2, decide_eq_false hh2]
      have := key false c l ((c :: l).length + 1) ((c :: (l ++ x)).length + 1) h
      rw [List.cons_append] at this
      exact this
/-- What is read stays read. -/
def Sfx (G : List UInt8 → PR RT) : Prop := ∀ (l r x : List UInt8) (t : RT), G l = .ok (t, r) → G (l ++ x) = .ok (t, r ++ x)
/-- What is too deep stays so. -/
def E14 (G : List UInt8 → PR RT) : Prop := ∀ (l x : List UInt8) (p : Nat), G l = .error (p, 14) → ∃ q, G (l ++ x) = .error (q, 14)
theorem thing_sfx {G : List UInt8 → PR RT} (hG : Sfx G) {c : UInt8} {l r : List UInt8} {t : RT} (x : List UInt8) (h : thingR wW nW oW G (c :: l) = .ok (t, r)) : thingR wW nW oW G (c :: l ++ x) = .ok (t, r ++ x) := by
  rw [List.cons_append]
  simp only [thingR] at h ⊢
  split at h
  · rename_i h1; rw [if_pos h1]; exact hG _ _ _ _ h
  · rename_i h1; rw [if_neg h1]
    split at h
    · rename_i h2; rw [if_pos h2]; exact set_sfx x h
    · rename_i h2; rw [if_neg h2]
      split at h
      · rename_i h3; rw [if_pos h3]; cases h; rfl
      · rename_i h3; rw [if_neg h3]
        split at h
        · rename_i h4; rw [if_pos h4]; cases h; rfl
        · rename_i h4; rw [if_neg h4]
          split at h
          · rename_i h5; rw [if_pos h5]; cases h; rfl
          · rename_i h5; rw [if_neg h5]
            cases hx : nextR (c :: l) with
            | error y => rw [hx] at h; cases h
            | ok y =>
              obtain ⟨b, r2⟩ := y
              rw [hx] at h
              have := next_sfx x hx
              rw [List.cons_append] at this
              rw [this]
              cases h; rfl
theorem next_e {l : List UInt8} {p k : Nat} (h : nextR l = .error (p, k)) : k ≠ 14 := by
  rcases l with _ | ⟨a, l⟩
  · cases h; omega
  · simp only [nextR] at h
    split at h
    · split at h
      · cases h; omega
      · split at h
        · cases h; omega
        · cases h
    · cases h
theorem span_e {n : Nat} {l : List UInt8} {p k : Nat} (h : spanR wW n l = .error (p, k)) : k ≠ 14 := by
  rcases l with _ | ⟨a, l⟩
  · cases h
  · simp only [spanR] at h
    split at h
    · rename_i y hy
      cases h
      exact next_e hy
    · split at h
      · split at h
        · rename_i y hy
          cases h
          exact next_e hy
        · split at h
          · cases h; omega
          · cases h
      · cases h
theorem loop_e {n : Nat} : ∀ (f : Nat) (l : List UInt8) (s : W4) (p k : Nat), setLoop wW oW n f l s = .error (p, k) → k ≠ 14
  | 0, l, s, p, k, h => by cases h; omega
  | f + 1, l, s, p, k, h => by
    unfold setLoop at h
    rcases l with _ | ⟨c, l⟩
    · cases h; omega
    · simp only at h
      split at h
      · cases h
      · split at h
        · rename_i y hy
          cases h
          exact span_e hy
        · exact loop_e f _ _ _ _ h
theorem set_e {l : List UInt8} {p k : Nat} (h : setR wW nW oW l = .error (p, k)) : k ≠ 14 := by
  unfold setR at h
  simp only at h
  generalize (if l.head? = some 94 then l.drop 1 else l) = l1 at h
  split at h
  · rename_i y hy
    cases h
    exact span_e hy
  · split at h
    · rename_i y hy
      cases h
      exact loop_e _ _ _ _ _ hy
    · cases h
theorem thing_e14 {G : List UInt8 → PR RT} (hG : E14 G) {c : UInt8} {l : List UInt8} {p : Nat} (x : List UInt8) (h : thingR wW nW oW G (c :: l) = .error (p, 14)) : ∃ q, thingR wW nW oW G (c :: l ++ x) = .error (q, 14) := by
  rw [List.cons_append]
  simp only [thingR] at h ⊢
  split at h
  · rename_i h1; rw [if_pos h1]; exact hG _ _ _ h
  · split at h
    · exact absurd rfl (set_e h)
    · split at h
      · cases h
      · split at h
        · cases h
        · split at h
          · cases h
          · split at h
            · rename_i y hy
              cases h
              exact absurd rfl (next_e hy)
            · cases h
theorem part_sfx {G : List UInt8 → PR RT} (hG : Sfx G) (x : List UInt8) (k : Nat) : ∀ (f : Nat) (l : List UInt8) (ts us : List RT) (r : List UInt8), partLoop wW nW oW G f l ts = .ok (us, r) → (r ≠ [] ∨ ∃ y, x = 41 :: y) → partLoop wW nW oW G (f + k) (l ++ x) ts = .ok (us, r ++ x)
  | 0, l, ts, us, r, h, _ => by cases h
  | f + 1, l, ts, us, r, h, hr => by
    rw [show f + 1 + k = (f + k) + 1 from by omega]
    rcases l with _ | ⟨c, l⟩
    · cases h
      obtain ⟨y, rfl⟩ : ∃ y, x = 41 :: y := by
        rcases hr with h | h
        · exact absurd rfl h
        · exact h
      rfl
    · rw [List.cons_append]
      unfold partLoop at h ⊢
      simp only at h ⊢
      by_cases h1 : c = 124 ∨ c = 41
      · rw [if_pos h1] at h ⊢
        cases h; rfl
      · rw [if_neg h1] at h ⊢
        by_cases h2 : signB c = true
        · rw [if_pos h2] at h ⊢
          cases hg : ts.getLast? with
          | none => rw [hg] at h; cases h
          | some t =>
            rw [hg] at h
            exact part_sfx hG x k f l _ us r h hr
        · rw [if_neg h2] at h ⊢
          cases ht : thingR wW nW oW G (c :: l) with
          | error y => rw [ht] at h; cases h
          | ok y =>
            obtain ⟨t, r2⟩ := y
            rw [ht] at h
            have := thing_sfx hG x ht
            rw [List.cons_append] at this
            rw [this]
            exact part_sfx hG x k f r2 _ us r h hr
theorem part_e14 {G : List UInt8 → PR RT} (hG : Sfx G) (hE : E14 G) (x : List UInt8) (k : Nat) : ∀ (f : Nat) (l : List UInt8) (ts : List RT) (p : Nat), partLoop wW nW oW G f l ts = .error (p, 14) → ∃ q, partLoop wW nW oW G (f + k) (l ++ x) ts = .error (q, 14)
  | 0, l, ts, p, h => by cases h
  | f + 1, l, ts, p, h => by
    rw [show f + 1 + k = (f + k) + 1 from by omega]
    rcases l with _ | ⟨c, l⟩
    · cases h
    · rw [List.cons_append]
      unfold partLoop at h ⊢
      simp only at h ⊢
      by_cases h1 : c = 124 ∨ c = 41
      · rw [if_pos h1] at h; cases h
      · rw [if_neg h1] at h ⊢
        by_cases h2 : signB c = true
        · rw [if_pos h2] at h ⊢
          cases hg : ts.getLast? with
          | none => rw [hg] at h; cases h
          | some t =>
            rw [hg] at h
            exact part_e14 hG hE x k f l _ p h
        · rw [if_neg h2] at h ⊢
          cases ht : thingR wW nW oW G (c :: l) with
          | error y =>
            rw [ht] at h
            cases h
            obtain ⟨q, hq⟩ := thing_e14 hE x ht
            rw [List.cons_append] at hq
            rw [hq]
            exact ⟨q, rfl⟩
          | ok y =>
            obtain ⟨t, r2⟩ := y
            rw [ht] at h
            have := thing_sfx hG x ht
            rw [List.cons_append] at this
            rw [this]
            exact part_e14 hG hE x k f r2 _ p h
theorem partR_sfx {G : List UInt8 → PR RT} (hG : Sfx G) {l r : List UInt8} {t : RT} (x : List UInt8) (h : partR wW nW oW G l = .ok (t, r)) (hr : r ≠ [] ∨ ∃ y, x = 41 :: y) : partR wW nW oW G (l ++ x) = .ok (t, r ++ x) := by
  unfold partR at h ⊢
  cases hp : partLoop wW nW oW G (l.length + 1) l [] with
  | error y => rw [hp] at h; cases h
  | ok y =>
    obtain ⟨us, r2⟩ := y
    rw [hp] at h
    cases h
    rw [List.length_append, show l.length + x.length + 1 = l.length + 1 + x.length from by omega, part_sfx hG x x.length _ _ _ _ _ hp hr]
theorem partR_e14 {G : List UInt8 → PR RT} (hG : Sfx G) (hE : E14 G) {l : List UInt8} {p : Nat} (x : List UInt8) (h : partR wW nW oW G l = .error (p, 14)) : ∃ q, partR wW nW oW G (l ++ x) = .error (q, 14) := by
  unfold partR at h ⊢
  cases hp : partLoop wW nW oW G (l.length + 1) l [] with
  | error y =>
    rw [hp] at h
    cases h
    obtain ⟨q, hq⟩ := part_e14 hG hE x x.length _ _ _ _ hp
    rw [List.length_append, show l.length + x.length + 1 = l.length + 1 + x.length from by omega, hq]
    exact ⟨q, rfl⟩
  | ok y => rw [hp] at h; cases h
theorem pat_sfx {G : List UInt8 → PR RT} (hG : Sfx G) (x : List UInt8) (k : Nat) : ∀ (f : Nat) (l : List UInt8) (ts us : List RT) (r : List UInt8), patLoop wW nW oW G f l ts = .ok (us, r) → (r ≠ [] ∨ ∃ y, x = 41 :: y) → patLoop wW nW oW G (f + k) (l ++ x) ts = .ok (us, r ++ x)
  | 0, l, ts, us, r, h, _ => by cases h
  | f + 1, l, ts, us, r, h, hr => by
    rw [show f + 1 + k = (f + k) + 1 from by omega]
    rcases l with _ | ⟨c, l⟩
    · cases h
      obtain ⟨y, rfl⟩ : ∃ y, x = 41 :: y := by
        rcases hr with h | h
        · exact absurd rfl h
        · exact h
      rfl
    · rw [List.cons_append]
      unfold patLoop at h ⊢
      simp only at h ⊢
      by_cases h1 : c = 124
      · rw [if_pos h1] at h ⊢
        cases hp : partR wW nW oW G l with
        | error y => rw [hp] at h; cases h
        | ok y =>
          obtain ⟨t, r2⟩ := y
          rw [hp] at h
          simp only at h
          have hr2 : r2 ≠ [] ∨ ∃ y, x = 41 :: y := by
            rcases r2 with _ | ⟨a, r2⟩
            · cases f with
              | zero => cases h
              | succ f => cases h; exact hr
            · exact .inl (by simp)
          rw [partR_sfx hG x hp hr2]
          exact pat_sfx hG x k f r2 _ us r h hr
      · rw [if_neg h1] at h ⊢
        cases h; rfl
theorem pat_e14 {G : List UInt8 → PR RT} (hG : Sfx G) (hE : E14 G) (x : List UInt8) (k : Nat) : ∀ (f : Nat) (l : List UInt8) (ts : List RT) (p : Nat), patLoop wW nW oW G f l ts = .error (p, 14) → ∃ q, patLoop wW nW oW G (f + k) (l ++ x) ts = .error (q, 14)
  | 0, l, ts, p, h => by cases h
  | f + 1, l, ts, p, h => by
    rw [show f + 1 + k = (f + k) + 1 from by omega]
    rcases l with _ | ⟨c, l⟩
    · cases h
    · rw [List.cons_append]
      unfold patLoop at h ⊢
      simp only at h ⊢
      by_cases h1 : c = 124
      · rw [if_pos h1] at h ⊢
        cases hp : partR wW nW oW G l with
        | error y =>
          rw [hp] at h
          cases h
          obtain ⟨q, hq⟩ := partR_e14 hG hE x hp
          rw [hq]
          exact ⟨q, rfl⟩
        | ok y =>
          obtain ⟨t, r2⟩ := y
          rw [hp] at h
          simp only at h
          have hr2 : r2 ≠ [] := by
            rintro rfl
            cases f with
            | zero => cases h
            | succ f => cases h
          rw [partR_sfx hG x hp (.inl hr2)]
          exact pat_e14 hG hE x k f r2 _ p h
      · rw [if_neg h1] at h; cases h
theorem patR_sfx {G : List UInt8 → PR RT} (hG : Sfx G) {l r : List UInt8} {t : RT} (x : List UInt8) (h : patR wW nW oW G l = .ok (t, r)) (hr : r ≠ [] ∨ ∃ y, x = 41 :: y) : patR wW nW oW G (l ++ x) = .ok (t, r ++ x) := by
  unfold patR at h ⊢
  cases hp : partR wW nW oW G l with
  | error y => rw [hp] at h; cases h
  | ok y =>
    obtain ⟨t1, r1⟩ := y
    rw [hp] at h
    simp only at h
    cases hq : patLoop wW nW oW G (r1.length + 1) r1 [t1] with
    | error z => rw [hq] at h; cases h
    | ok z =>
      obtain ⟨us, r2⟩ := z
      rw [hq] at h
      cases h
      have hr1 : r1 ≠ [] ∨ ∃ y, x = 41 :: y := by
        rcases r1 with _ | ⟨a, r1⟩
        · cases hq; exact hr
        · exact .inl (by simp)
      rw [partR_sfx hG x hp hr1]
      simp only
      rw [List.length_append, show r1.length + x.length + 1 = r1.length + 1 + x.length from by omega, pat_sfx hG x x.length _ _ _ _ _ hq hr]
theorem patR_e14 {G : List UInt8 → PR RT} (hG : Sfx G) (hE : E14 G) {l : List UInt8} {p : Nat} (x : List UInt8) (h : patR wW nW oW G l = .error (p, 14)) : ∃ q, patR wW nW oW G (l ++ x) = .error (q, 14) := by
  unfold patR at h ⊢
  cases hp : partR wW nW oW G l with
  | error y =>
    rw [hp] at h
    cases h
    obtain ⟨q, hq⟩ := partR_e14 hG hE x hp
    rw [hq]
    exact ⟨q, rfl⟩
  | ok y =>
    obtain ⟨t1, r1⟩ := y
    rw [hp] at h
    simp only at h
    cases hq : patLoop wW nW oW G (r1.length + 1) r1 [t1] with
    | error z =>
      rw [hq] at h
      cases h
      have hr1 : r1 ≠ [] := by rintro rfl; cases hq
      rw [partR_sfx hG x hp (.inl hr1)]
      simp only
      obtain ⟨q, hq2⟩ := pat_e14 hG hE x x.length _ _ _ _ hq
      rw [List.length_append, show r1.length + x.length + 1 = r1.length + 1 + x.length from by omega, hq2]
      exact ⟨q, rfl⟩
    | ok z => rw [hq] at h; cases h
theorem grp_sfx : ∀ d : Nat, Sfx (grpR wW nW oW d)
  | 0 => fun l r x t h => by cases h
  | d + 1 => fun l r x t h => by
    unfold grpR at h ⊢
    cases hp : patR wW nW oW (grpR wW nW oW d) l with
    | error y => rw [hp] at h; cases h
    | ok y =>
      obtain ⟨t1, r1⟩ := y
      rw [hp] at h
      simp only at h
      rcases r1 with _ | ⟨a, r1⟩
      · cases h
      · rw [patR_sfx (grp_sfx d) x hp (.inl (by simp)), List.cons_append]
        simp only at h ⊢
        by_cases ha : a = 41
        · rw [if_pos ha] at h ⊢; cases h; rfl
        · rw [if_neg ha] at h; cases h
theorem grp_e14 : ∀ d : Nat, E14 (grpR wW nW oW d)
  | 0 => fun l x p _ => ⟨(l ++ x).length + 1, rfl⟩
  | d + 1 => fun l x p h => by
    unfold grpR at h ⊢
    cases hp : patR wW nW oW (grpR wW nW oW d) l with
    | error y =>
      rw [hp] at h
      cases h
      obtain ⟨q, hq⟩ := patR_e14 (grp_sfx d) (grp_e14 d) x hp
      rw [hq]
      exact ⟨q, rfl⟩
    | ok y =>
      obtain ⟨t1, r1⟩ := y
      rw [hp] at h
      simp only at h
      rcases r1 with _ | ⟨a, r1⟩
      · cases h
      · simp only at h
        split at h <;> cases h
end
end Go.Proofs.YtmlpkimbcjkbkaaGreatDoor

namespace Go.Proofs.YtmlpkimbcjkbkaaGreatDoor

section
variable {wW : W4 → UInt8 → W4} {nW : W4 → W4} {oW : W4 → W4 → W4}

/-- What one reads the other reads, or finds too deep. -/
def Dp {α : Type} (a b : PR α) : Prop := ∀ y, a = .ok y → b = .ok y ∨ ∃ p, b = .error (p, 14)
theorem thing_dp {G G' : List UInt8 → PR RT} (hG : ∀ l, Dp (G l) (G' l)) (c : UInt8) (l : List UInt8) : Dp (thingR wW nW oW G (c :: l)) (thingR wW nW oW G' (c :: l)) := by
  intro y h
  simp only [thingR] at h ⊢
  split at h
  · rename_i h1; rw [if_pos h1]; exact hG _ _ h
  · rename_i h1; rw [if_neg h1]; exact .inl h
theorem part_dp {G G' : List UInt8 → PR RT} (hG : ∀ l, Dp (G l) (G' l)) : ∀ (f : Nat) (l : List UInt8) (ts : List RT), Dp (partLoop wW nW oW G f l ts) (partLoop wW nW oW G' f l ts)
  | 0, l, ts => fun y h => by cases h
  | f + 1, l, ts => fun y h => by
    rcases l with _ | ⟨c, l⟩
    · exact .inl h
    · unfold partLoop at h ⊢
      simp only at h ⊢
      by_cases h1 : c = 124 ∨ c = 41
      · rw [if_pos h1] at h ⊢; exact .inl h
      · rw [if_neg h1] at h ⊢
        by_cases h2 : signB c = true
        · rw [if_pos h2] at h ⊢
          cases hg : ts.getLast? with
          | none => rw [hg] at h; cases h
          | some t =>
            rw [hg] at h
            exact part_dp hG f l _ y h
        · rw [if_neg h2] at h ⊢
          cases ht : thingR wW nW oW G (c :: l) with
          | error z => rw [ht] at h; cases h
          | ok z =>
            obtain ⟨t, r2⟩ := z
            rw [ht] at h
            rcases thing_dp hG c l _ ht with h3 | ⟨p, h3⟩
            · rw [h3]; exact part_dp hG f r2 _ y h
            · rw [h3]; exact .inr ⟨p, rfl⟩
theorem partR_dp {G G' : List UInt8 → PR RT} (hG : ∀ l, Dp (G l) (G' l)) (l : List UInt8) : Dp (partR wW nW oW G l) (partR wW nW oW G' l) := by
  intro y h
  unfold partR at h ⊢
  cases hp : partLoop wW nW oW G (l.length + 1) l [] with
  | error z => rw [hp] at h; cases h
  | ok z =>
    rw [hp] at h
    rcases part_dp hG _ _ _ _ hp with h3 | ⟨p, h3⟩
    · rw [h3]; exact .inl h
    · rw [h3]; exact .inr ⟨p, rfl⟩
theorem pat_dp {G G' : List UInt8 → PR RT} (hG : ∀ l, Dp (G l) (G' l)) : ∀ (f : Nat) (l : List UInt8) (ts : List RT), Dp (patLoop wW nW oW G f l ts) (patLoop wW nW oW G' f l ts)
  | 0, l, ts => fun y h => by cases h
  | f + 1, l, ts => fun y h => by
    rcases l with _ | ⟨c, l⟩
    · exact .inl h
    · unfold patLoop at h ⊢
      simp only at h ⊢
      by_cases h1 : c = 124
      · rw [if_pos h1] at h ⊢
        cases hp : partR wW nW oW G l with
        | error z => rw [hp] at h; cases h
        | ok z =>
          obtain ⟨t, r2⟩ := z
          rw [hp] at h
          rcases partR_dp hG l _ hp with h3 | ⟨p, h3⟩
          · rw [h3]; exact pat_dp hG f r2 _ y h
          · rw [h3]; exact .inr ⟨p, rfl⟩
      · rw [if_neg h1] at h ⊢; exact .inl h
theorem patR_dp {G G' : List UInt8 → PR RT} (hG : ∀ l, Dp (G l) (G' l)) (l : List UInt8) : Dp (patR wW nW oW G l) (patR wW nW oW G' l) := by
  intro y h
  unfold patR at h ⊢
  cases hp : partR wW nW oW G l with
  | error z => rw [hp] at h; cases h
  | ok z =>
    obtain ⟨t, r⟩ := z
    rw [hp] at h
    rcases partR_dp hG l _ hp with h3 | ⟨p, h3⟩
    · rw [h3]
      simp only at h ⊢
      cases hq : patLoop wW nW oW G (r.length + 1) r [t] with
      | error z => rw [hq] at h; cases h
      | ok z =>
        rw [hq] at h
        rcases pat_dp hG _ _ _ _ hq with h4 | ⟨p, h4⟩
        · rw [h4]; exact .inl h
        · rw [h4]; exact .inr ⟨p, rfl⟩
    · rw [h3]; exact .inr ⟨p, rfl⟩
theorem grp_dp : ∀ (d : Nat) (l : List UInt8), Dp (grpR wW nW oW (d + 1) l) (grpR wW nW oW d l)
  | 0, l => fun y _ => .inr ⟨_, rfl⟩
  | d + 1, l => fun y h => by
    have e : ∀ (d : Nat), grpR wW nW oW (d + 1) l = match patR wW nW oW (grpR wW nW oW d) l with
        | .error x => .error x
        | .ok (t, r) => match r with
          | [] => .error (l.length + 1, 9)
          | c :: r2 => if c = 41 then .ok (t, r2) else .error (l.length + 1, 9) := fun d => by
      conv => lhs; unfold grpR
      cases patR wW nW oW (grpR wW nW oW d) l with
      | error x => rfl
      | ok x => obtain ⟨t, r⟩ := x; cases r <;> rfl
    rw [e] at h
    rw [e]
    cases hp : patR wW nW oW (grpR wW nW oW (d + 1)) l with
    | error z => rw [hp] at h; cases h
    | ok z =>
      rw [hp] at h
      rcases patR_dp (grp_dp d) l _ hp with h3 | ⟨p, h3⟩
      · rw [h3]; exact .inl h
      · rw [h3]; exact .inr ⟨p, rfl⟩
/-- Signs behind a thing. -/
def signsT (t : RT) (x : List UInt8) : RT := x.foldl (fun t c => .mk (oftenR c) W4.zero [t]) t
theorem part_signs (G : List UInt8 → PR RT) : ∀ (x : List UInt8) (f : Nat) (t : RT), (∀ c ∈ x, signB c = true) → x.length < f → partLoop wW nW oW G f x [t] = .ok ([signsT t x], [])
  | [], f, t, _, hf => by
    obtain ⟨f, rfl⟩ : ∃ g, f = g + 1 := ⟨f - 1, by simp at hf; omega⟩
    rfl
  | c :: x, f, t, hx, hf => by
    obtain ⟨f, rfl⟩ : ∃ g, f = g + 1 := ⟨f - 1, by simp at hf; omega⟩
    have hc := hx c (by simp)
    have h1 : ¬ (c = 124 ∨ c = 41) := by
      rintro (rfl | rfl) <;> exact absurd hc (by decide)
    unfold partLoop
    simp only
    rw [if_neg h1, if_pos hc]
    show partLoop wW nW oW G f x [.mk (oftenR c) W4.zero [t]] = _
    rw [part_signs G x f _ (fun d hd => hx d (by simp [hd])) (by simp only [List.length_cons] at hf; omega)]
    rfl
/-- A pattern in brackets, and signs behind it. -/
theorem group_top {l r : List UInt8} {t : RT} (h : topR wW nW oW l = .ok (t, r)) :
    (∀ x : List UInt8, (∀ c ∈ x, signB c = true) → topR wW nW oW (40 :: (l ++ 41 :: x)) = .ok (signsT t x, [])) ∨ (∀ x : List UInt8, ∃ p, topR wW nW oW (40 :: (l ++ 41 :: x)) = .error (p, 14)) := by
  have hp : patR wW nW oW (grpR wW nW oW 20) l = .ok (t, []) := by
    unfold topR at h
    cases hp : patR wW nW oW (grpR wW nW oW 20) l with
    | error z => rw [hp] at h; cases h
    | ok z =>
      obtain ⟨t1, r1⟩ := z
      rw [hp] at h
      rcases r1 with _ | ⟨c, r1⟩
      · cases h; rfl
      · cases h
  have hpart : ∀ (x : List UInt8) (z : PR RT), grpR wW nW oW 20 (l ++ 41 :: x) = z → partLoop wW nW oW (grpR wW nW oW 20) ((40 :: (l ++ 41 :: x)).length + 1) (40 :: (l ++ 41 :: x)) [] = match z with
      | .error y => .error y
      | .ok (t, r2) => partLoop wW nW oW (grpR wW nW oW 20) ((l ++ 41 :: x).length + 1) r2 [t] := fun x z hz => by
    show partLoop wW nW oW (grpR wW nW oW 20) ((l ++ 41 :: x).length + 1 + 1) (40 :: (l ++ 41 :: x)) [] = _
    conv => lhs; unfold partLoop
    simp only
    rw [if_neg (by decide), if_neg (by decide)]
    rw [show thingR wW nW oW (grpR wW nW oW 20) (40 :: (l ++ 41 :: x)) = grpR wW nW oW 20 (l ++ 41 :: x) from rfl, hz]
    cases z with
    | error y => rfl
    | ok y => rfl
  rcases patR_dp (grp_dp 19) l _ hp with h3 | ⟨p, h3⟩
  · left
    intro x hx
    have hg : grpR wW nW oW 20 (l ++ 41 :: x) = .ok (t, x) := by
      show (match patR wW nW oW (grpR wW nW oW 19) (l ++ 41 :: x) with
        | .error x => .error x
        | .ok (t, r) => match r with
          | [] => .error ((l ++ 41 :: x).length + 1, 9)
          | c :: r2 => if c = 41 then .ok (t, r2) else .error ((l ++ 41 :: x).length + 1, 9) : PR RT) = _
      rw [patR_sfx (grp_sfx 19) (41 :: x) h3 (.inr ⟨x, rfl⟩)]
      rfl
    have h4 := hpart x _ hg
    simp only at h4
    rw [part_signs _ x _ t hx (by simp; omega)] at h4
    unfold topR patR partR
    rw [h4]
    rfl
  · right
    intro x
    obtain ⟨q, hq⟩ := patR_e14 (grp_sfx 19) (grp_e14 19) (41 :: x) h3
    have hg : grpR wW nW oW 20 (l ++ 41 :: x) = .error (q, 14) := by
      show (match patR wW nW oW (grpR wW nW oW 19) (l ++ 41 :: x) with
        | .error x => .error x
        | .ok (t, r) => match r with
          | [] => .error ((l ++ 41 :: x).length + 1, 9)
          | c :: r2 => if c = 41 then .ok (t, r2) else .error ((l ++ 41 :: x).length + 1, 9) : PR RT) = _
      rw [hq]
    have h4 := hpart x _ hg
    simp only at h4
    refine ⟨q, ?_⟩
    unfold topR patR partR
    rw [h4]
end
end Go.Proofs.YtmlpkimbcjkbkaaGreatDoor

namespace Go.Proofs.YtmlpkimbcjkbkaaGreatDoor

section
variable {G : List UInt8 → PR RT}
theorem part_bar (hG : Sfx G) (y : List UInt8) (k : Nat) : ∀ (f : Nat) (l : List UInt8) (ts us : List RT) (r : List UInt8), partLoop withW notW orW G f l ts = .ok (us, r) → partLoop withW notW orW G (f + k) (l ++ 124 :: y) ts = .ok (us, r ++ 124 :: y)
  | 0, l, ts, us, r, h => by cases h
  | f + 1, l, ts, us, r, h => by
    rw [show f + 1 + k = (f + k) + 1 from by omega]
    rcases l with _ | ⟨c, l⟩
    · cases h
      rfl
    · rw [List.cons_append]
      unfold partLoop at h ⊢
      simp only at h ⊢
      by_cases h1 : c = 124 ∨ c = 41
      · rw [if_pos h1] at h ⊢
        cases h; rfl
      · rw [if_neg h1] at h ⊢
        by_cases h2 : signB c = true
        · rw [if_pos h2] at h ⊢
          cases hg : ts.getLast? with
          | none => rw [hg] at h; cases h
          | some t =>
            rw [hg] at h
            exact part_bar hG y k f l _ us r h
        · rw [if_neg h2] at h ⊢
          cases ht : thingR withW notW orW G (c :: l) with
          | error y => rw [ht] at h; cases h
          | ok y' =>
            obtain ⟨t, r2⟩ := y'
            rw [ht] at h
            have := thing_sfx hG (124 :: y) ht
            rw [List.cons_append] at this
            rw [this]
            exact part_bar hG y k f r2 _ us r h
theorem partR_bar (hG : Sfx G) {l r : List UInt8} {t : RT} (y : List UInt8) (h : partR withW notW orW G l = .ok (t, r)) : partR withW notW orW G (l ++ 124 :: y) = .ok (t, r ++ 124 :: y) := by
  unfold partR at h ⊢
  cases hp : partLoop withW notW orW G (l.length + 1) l [] with
  | error z => rw [hp] at h; cases h
  | ok z =>
    obtain ⟨ts, r2⟩ := z
    rw [hp] at h
    cases h
    have := part_bar hG y (y.length + 1) _ _ _ _ _ hp
    rw [List.length_append, List.length_cons, show l.length + (y.length + 1) + 1 = l.length + 1 + (y.length + 1) from by omega, this]
theorem pat_acc (a : List RT) (k : Nat) : ∀ (f : Nat) (l : List UInt8) (ts us : List RT) (r : List UInt8), patLoop withW notW orW G f l ts = .ok (us, r) → patLoop withW notW orW G (f + k) l (a ++ ts) = .ok (a ++ us, r)
  | 0, l, ts, us, r, h => by cases h
  | f + 1, l, ts, us, r, h => by
    rw [show f + 1 + k = (f + k) + 1 from by omega]
    rcases l with _ | ⟨c, l⟩
    · cases h; rfl
    · unfold patLoop at h ⊢
      simp only at h ⊢
      by_cases h1 : c = 124
      · rw [if_pos h1] at h ⊢
        cases hp : partR withW notW orW G l with
        | error z => rw [hp] at h; cases h
        | ok z =>
          obtain ⟨t, r2⟩ := z
          rw [hp] at h
          simp only at h ⊢
          rw [List.append_assoc]
          exact pat_acc a k f r2 _ us r h
      · rw [if_neg h1] at h ⊢
        cases h; rfl
theorem pat_grow : ∀ (f : Nat) (l : List UInt8) (ts us : List RT) (r : List UInt8), patLoop withW notW orW G f l ts = .ok (us, r) → ts ≠ [] → us ≠ []
  | 0, l, ts, us, r, h, _ => by cases h
  | f + 1, l, ts, us, r, h, hn => by
    unfold patLoop at h
    split at h
    · cases h; exact hn
    · split at h
      · split at h
        · cases h
        · exact pat_grow f _ _ us r h (by simp)
      · cases h; exact hn
theorem pat_bar (hG : Sfx G) {y rb : List UInt8} {t : RT} {vs : List RT} {fb k : Nat} (h1 : partR withW notW orW G y = .ok (t, rb)) (h2 : patLoop withW notW orW G fb rb [t] = .ok (vs, [])) (hk : fb ≤ k) :
    ∀ (f : Nat) (l : List UInt8) (ts us : List RT), patLoop withW notW orW G f l ts = .ok (us, []) → patLoop withW notW orW G (f + k) (l ++ 124 :: y) ts = .ok (us ++ vs, [])
  | 0, l, ts, us, h => by cases h
  | f + 1, l, ts, us, h => by
    rw [show f + 1 + k = (f + k) + 1 from by omega]
    rcases l with _ | ⟨c, l⟩
    · cases h
      show patLoop withW notW orW G ((f + k) + 1) (124 :: y) ts = _
      conv => lhs; unfold patLoop
      simp only
      rw [if_pos trivial, h1]
      have := pat_acc ts (f + k - fb) fb rb [t] vs [] h2
      rw [show fb + (f + k - fb) = f + k from by omega] at this
      exact this
    · rw [List.cons_append]
      unfold patLoop at h ⊢
      simp only at h ⊢
      by_cases hc : c = 124
      · rw [if_pos hc] at h ⊢
        cases hp : partR withW notW orW G l with
        | error z => rw [hp] at h; cases h
        | ok z =>
          obtain ⟨t', r2⟩ := z
          rw [hp] at h
          rw [partR_bar hG y hp]
          exact pat_bar hG h1 h2 hk f r2 _ us h
      · rw [if_neg hc] at h
        cases h
end
theorem altL_append {g : W4 → Nat → Prop} {n i j : Nat} : ∀ {a b : List RT}, AltL g n (a ++ b) i j ↔ AltL g n a i j ∨ AltL g n b i j
  | [], b => by simp [AltL]
  | u :: a, b => by rw [List.cons_append, AltL, AltL, altL_append, or_assoc]
theorem lead_alt {g : W4 → Nat → Prop} {n i j : Nat} : ∀ {ts : List RT}, ts ≠ [] → (Lead g n (gatherR 3 ts) i j ↔ AltL g n ts i j)
  | [], h => absurd rfl h
  | [t], _ => by show Lead g n t i j ↔ _; simp [AltL]
  | t :: u :: l, _ => by
    show Lead g n (.mk 3 W4.zero (t :: u :: l)) i j ↔ _
    conv => lhs; unfold Lead
    rw [if_neg (by decide), if_pos rfl]
theorem top_parts {l : List UInt8} {t : RT} {r : List UInt8} (h : topR withW notW orW l = .ok (t, r)) :
    ∃ t1 r1 ts, partR withW notW orW (grpR withW notW orW 20) l = .ok (t1, r1) ∧ patLoop withW notW orW (grpR withW notW orW 20) (r1.length + 1) r1 [t1] = .ok (ts, []) ∧ t = gatherR 3 ts ∧ ts ≠ [] ∧ r = [] := by
  unfold topR patR at h
  cases hp : partR withW notW orW (grpR withW notW orW 20) l with
  | error z => rw [hp] at h; cases h
  | ok z =>
    obtain ⟨t1, r1⟩ := z
    rw [hp] at h
    simp only at h
    cases hq : patLoop withW notW orW (grpR withW notW orW 20) (r1.length + 1) r1 [t1] with
    | error z => rw [hq] at h; cases h
    | ok z =>
      obtain ⟨ts, r2⟩ := z
      rw [hq] at h
      rcases r2 with _ | ⟨c, r2⟩
      · cases h
        exact ⟨t1, r1, ts, rfl, hq, rfl, pat_grow _ _ _ _ _ hq (by simp), rfl⟩
      · cases h
/-- Two patterns with | between. -/
theorem top_bar {a b : List UInt8} {t1 t2 : RT} {r1 r2 : List UInt8} (h1 : topR withW notW orW a = .ok (t1, r1)) (h2 : topR withW notW orW b = .ok (t2, r2)) :
    ∃ t3, topR withW notW orW (a ++ 124 :: b) = .ok (t3, []) ∧ ∀ (g : W4 → Nat → Prop) (n i j : Nat), Lead g n t3 i j ↔ Lead g n t1 i j ∨ Lead g n t2 i j := by
  obtain ⟨u1, ra, us, p1, q1, rfl, n1, _⟩ := top_parts h1
  obtain ⟨u2, rb, vs, p2, q2, rfl, n2, _⟩ := top_parts h2
  have hb := (part_fine (grp_fine 20) p2).2
  have hs : 1 ≤ sizeN u2 := by cases u2; rw [sizeN]; omega
  refine ⟨gatherR 3 (us ++ vs), ?_, fun g n i j => ?_⟩
  · have e1 := partR_bar (grp_sfx 20) b p1
    have e2 := pat_bar (grp_sfx 20) p2 q2 (k := b.length + 1) (by omega) _ _ _ _ q1
    unfold topR patR
    rw [e1]
    simp only
    rw [List.length_append, List.length_cons, show ra.length + (b.length + 1) + 1 = ra.length + 1 + (b.length + 1) from by omega, e2]
  · rw [lead_alt (by simp [n1]), lead_alt n1, lead_alt n2, altL_append]
theorem met_bar {s : ByteArray} {t1 t2 t3 : RT} (h : ∀ (g : W4 → Nat → Prop) (n i j : Nat), Lead g n t3 i j ↔ Lead g n t1 i j ∨ Lead g n t2 i j) (i j : Nat) : Met s t3 i j ↔ Met s t1 i j ∨ Met s t2 i j := by
  unfold Met
  rw [h]
  constructor
  · rintro ⟨h1, h2 | h2⟩
    · exact .inl ⟨h1, h2⟩
    · exact .inr ⟨h1, h2⟩
  · rintro (⟨h1, h2⟩ | ⟨h1, h2⟩)
    · exact ⟨h1, .inl h2⟩
    · exact ⟨h1, .inr h2⟩
/-- A tree between the text's beginning and its end. -/
def wholeT (t : RT) : RT := .mk 2 W4.zero [.mk 7 W4.zero [], t, .mk 8 W4.zero []]
theorem lead_begin {g : W4 → Nat → Prop} {n : Nat} {st : W4} {i j : Nat} : Lead g n (.mk 7 st []) i j ↔ i = j ∧ i = 0 := by
  unfold Lead
  rw [if_neg (by decide), if_neg (by decide), if_pos rfl]
theorem lead_end {g : W4 → Nat → Prop} {n : Nat} {st : W4} {i j : Nat} : Lead g n (.mk 8 st []) i j ↔ i = j ∧ i = n := by
  unfold Lead
  rw [if_neg (by decide), if_neg (by decide), if_neg (by decide), if_pos rfl]
theorem met_whole {s : ByteArray} {t : RT} : InIs s (wholeT t) ↔ Met s t 0 s.size := by
  unfold InIs Met wholeT
  constructor
  · rintro ⟨i, j, hj, h⟩
    rw [lead_cat, catL_cons] at h
    obtain ⟨k, h1, h2⟩ := h
    rw [catL_cons] at h2
    obtain ⟨k2, h3, h4⟩ := h2
    rw [catL_one, lead_end] at h4
    rw [lead_begin] at h1
    obtain ⟨rfl, rfl⟩ := h1
    obtain ⟨rfl, rfl⟩ := h4
    exact ⟨Nat.le_refl _, h3⟩
  · rintro ⟨_, h⟩
    exact ⟨0, s.size, Nat.le_refl _, lead_cat.2 (catL_cons.2 ⟨0, lead_begin.2 ⟨rfl, rfl⟩, catL_cons.2 ⟨s.size, h, catL_one.2 (lead_end.2 ⟨rfl, rfl⟩)⟩⟩)⟩
/-- A pattern between ^( and )$. -/
theorem top_whole {l r : List UInt8} {t : RT} (h : topR withW notW orW l = .ok (t, r)) :
    topR withW notW orW (94 :: 40 :: (l ++ [41, 36])) = .ok (wholeT t, []) ∨ ∃ p, topR withW notW orW (94 :: 40 :: (l ++ [41, 36])) = .error (p, 14) := by
  have hp : patR withW notW orW (grpR withW notW orW 20) l = .ok (t, []) := by
    unfold topR at h
    cases hp : patR withW notW orW (grpR withW notW orW 20) l with
    | error z => rw [hp] at h; cases h
    | ok z =>
      obtain ⟨t1, r1⟩ := z
      rw [hp] at h
      rcases r1 with _ | ⟨c, r1⟩
      · cases h; rfl
      · cases h
  have hpart : ∀ (z : PR RT), grpR withW notW orW 20 (l ++ [41, 36]) = z → partLoop withW notW orW (grpR withW notW orW 20) ((94 :: 40 :: (l ++ [41, 36])).length + 1) (94 :: 40 :: (l ++ [41, 36])) [] = match z with
      | .error y => .error y
      | .ok (t, r2) => partLoop withW notW orW (grpR withW notW orW 20) ((l ++ [41, 36]).length + 1) r2 [.mk 7 W4.zero [], t] := fun z hz => by
    show partLoop withW notW orW (grpR withW notW orW 20) ((l ++ [41, 36]).length + 1 + 1 + 1) (94 :: 40 :: (l ++ [41, 36])) [] = _
    conv => lhs; unfold partLoop
    simp only
    rw [if_neg (by decide), if_neg (by decide)]
    rw [show thingR withW notW orW (grpR withW notW orW 20) (94 :: 40 :: (l ++ [41, 36])) = .ok (.mk 7 W4.zero [], 40 :: (l ++ [41, 36])) from rfl]
    simp only
    conv => lhs; unfold partLoop
    simp only
    rw [if_neg (by decide), if_neg (by decide)]
    rw [show thingR withW notW orW (grpR withW notW orW 20) (40 :: (l ++ [41, 36])) = grpR withW notW orW 20 (l ++ [41, 36]) from rfl, hz]
    cases z with
    | error y => rfl
    | ok y => rfl
  rcases patR_dp (grp_dp 19) l _ hp with h3 | ⟨p, h3⟩
  · left
    have hg : grpR withW notW orW 20 (l ++ [41, 36]) = .ok (t, [36]) := by
      show (match patR withW notW orW (grpR withW notW orW 19) (l ++ [41, 36]) with
        | .error x => .error x
        | .ok (t, r) => match r with
          | [] => .error ((l ++ [41, 36]).length + 1, 9)
          | c :: r2 => if c = 41 then .ok (t, r2) else .error ((l ++ [41, 36]).length + 1, 9) : PR RT) = _
      rw [patR_sfx (grp_sfx 19) [41, 36] h3 (.inr ⟨[36], rfl⟩)]
      rfl
    have h4 := hpart _ hg
    simp only at h4
    have h5 : ∀ f, partLoop withW notW orW (grpR withW notW orW 20) (f + 1 + 1) [36] [.mk 7 W4.zero [], t] = .ok ([.mk 7 W4.zero [], t, .mk 8 W4.zero []], []) := fun f => rfl
    have h6 : (l ++ [41, 36]).length + 1 = (l.length + 1) + 1 + 1 := by simp
    have h7 := h5 (l.length + 1)
    rw [← h6] at h7
    rw [h7] at h4
    unfold topR patR partR
    rw [h4]
    rfl
  · right
    obtain ⟨q, hq⟩ := patR_e14 (grp_sfx 19) (grp_e14 19) [41, 36] h3
    have hg : grpR withW notW orW 20 (l ++ [41, 36]) = .error (q, 14) := by
      show (match patR withW notW orW (grpR withW notW orW 19) (l ++ [41, 36]) with
        | .error x => .error x
        | .ok (t, r) => match r with
          | [] => .error ((l ++ [41, 36]).length + 1, 9)
          | c :: r2 => if c = 41 then .ok (t, r2) else .error ((l ++ [41, 36]).length + 1, 9) : PR RT) = _
      rw [hq]
    have h4 := hpart _ hg
    simp only at h4
    refine ⟨q, ?_⟩
    unfold topR patR partR
    rw [h4]
end Go.Proofs.YtmlpkimbcjkbkaaGreatDoor
