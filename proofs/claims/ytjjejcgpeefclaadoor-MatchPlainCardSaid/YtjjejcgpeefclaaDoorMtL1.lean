/-
  MATHEMATICS of layer 10's laws: a pattern with | between two others; one between ^( and )$.
-/
import Derived.Test.YtjjejcgpeefclaaDoorMtA
import Derived.Test.YtjjejcgpeefclaaDoorRgK2
namespace Go.Proofs.YtjjejcgpeefclaaDoor

section
variable {G : List UInt8 → PR RT}
theorem part_bar (hG : Sfx G) (y : List UInt8) (k : Nat) : ∀ (f : Nat) (l : List UInt8) (ts us : List RT) (r : List UInt8), partLoop withW notW orW G f l ts = .ok (us, r) → partLoop withW notW orW G (f + k) (l ++ 124 :: y) ts = .ok (us, r ++ 124 :: y)
  | 0, l, ts, us, r, h => by cases h
  | f + 1, l, ts, us, r, h => by
    rw [show f + 1 + k = (f + k) + 1 from by omega]
    rcases l with _ | ⟨c, l⟩
    · cases h
      rfl
    · rw [List.cons_append]
      unfold partLoop at h ⊢
      simp only at h ⊢
      by_cases h1 : c = 124 ∨ c = 41
      · rw [if_pos h1] at h ⊢
        cases h; rfl
      · rw [if_neg h1] at h ⊢
        by_cases h2 : signB c = true
        · rw [if_pos h2] at h ⊢
          cases hg : ts.getLast? with
          | none => rw [hg] at h; cases h
          | some t =>
            rw [hg] at h
            exact part_bar hG y k f l _ us r h
        · rw [if_neg h2] at h ⊢
          cases ht : thingR withW notW orW G (c :: l) with
          | error y => rw [ht] at h; cases h
          | ok y' =>
            obtain ⟨t, r2⟩ := y'
            rw [ht] at h
            have := thing_sfx hG (124 :: y) ht
            rw [List.cons_append] at this
            rw [this]
            exact part_bar hG y k f r2 _ us r h
theorem partR_bar (hG : Sfx G) {l r : List UInt8} {t : RT} (y : List UInt8) (h : partR withW notW orW G l = .ok (t, r)) : partR withW notW orW G (l ++ 124 :: y) = .ok (t, r ++ 124 :: y) := by
  unfold partR at h ⊢
  cases hp : partLoop withW notW orW G (l.length + 1) l [] with
  | error z => rw [hp] at h; cases h
  | ok z =>
    obtain ⟨ts, r2⟩ := z
    rw [hp] at h
    cases h
    have := part_bar hG y (y.length + 1) _ _ _ _ _ hp
    rw [List.length_append, List.length_cons, show l.length + (y.length + 1) + 1 = l.length + 1 + (y.length + 1) from by omega, this]
theorem pat_acc (a : List RT) (k : Nat) : ∀ (f : Nat) (l : List UInt8) (ts us : List RT) (r : List UInt8), patLoop withW notW orW G f l ts = .ok (us, r) → patLoop withW notW orW G (f + k) l (a ++ ts) = .ok (a ++ us, r)
  | 0, l, ts, us, r, h => by cases h
  | f + 1, l, ts, us, r, h => by
    rw [show f + 1 + k = (f + k) + 1 from by omega]
    rcases l with _ | ⟨c, l⟩
    · cases h; rfl
    · unfold patLoop at h ⊢
      simp only at h ⊢
      by_cases h1 : c = 124
      · rw [if_pos h1] at h ⊢
        cases hp : partR withW notW orW G l with
        | error z => rw [hp] at h; cases h
        | ok z =>
          obtain ⟨t, r2⟩ := z
          rw [hp] at h
          simp only at h ⊢
          rw [List.append_assoc]
          exact pat_acc a k f r2 _ us r h
      · rw [if_neg h1] at h ⊢
        cases h; rfl
theorem pat_grow : ∀ (f : Nat) (l : List UInt8) (ts us : List RT) (r : List UInt8), patLoop withW notW orW G f l ts = .ok (us, r) → ts ≠ [] → us ≠ []
  | 0, l, ts, us, r, h, _ => by cases h
  | f + 1, l, ts, us, r, h, hn => by
    unfold patLoop at h
    split at h
    · cases h; exact hn
    · split at h
      · split at h
        · cases h
        · exact pat_grow f _ _ us r h (by simp)
      · cases h; exact hn
theorem pat_bar (hG : Sfx G) {y rb : List UInt8} {t : RT} {vs : List RT} {fb k : Nat} (h1 : partR withW notW orW G y = .ok (t, rb)) (h2 : patLoop withW notW orW G fb rb [t] = .ok (vs, [])) (hk : fb ≤ k) :
    ∀ (f : Nat) (l : List UInt8) (ts us : List RT), patLoop withW notW orW G f l ts = .ok (us, []) → patLoop withW notW orW G (f + k) (l ++ 124 :: y) ts = .ok (us ++ vs, [])
  | 0, l, ts, us, h => by cases h
  | f + 1, l, ts, us, h => by
    rw [show f + 1 + k = (f + k) + 1 from by omega]
    rcases l with _ | ⟨c, l⟩
    · cases h
      show patLoop withW notW orW G ((f + k) + 1) (124 :: y) ts = _
      conv => lhs; unfold patLoop
      simp only
      rw [if_pos trivial, h1]
      have := pat_acc ts (f + k - fb) fb rb [t] vs [] h2
      rw [show fb + (f + k - fb) = f + k from by omega] at this
      exact this
    · rw [List.cons_append]
      unfold patLoop at h ⊢
      simp only at h ⊢
      by_cases hc : c = 124
      · rw [if_pos hc] at h ⊢
        cases hp : partR withW notW orW G l with
        | error z => rw [hp] at h; cases h
        | ok z =>
          obtain ⟨t', r2⟩ := z
          rw [hp] at h
          rw [partR_bar hG y hp]
          exact pat_bar hG h1 h2 hk f r2 _ us h
      · rw [if_neg hc] at h
        cases h
end
theorem altL_append {g : W4 → Nat → Prop} {n i j : Nat} : ∀ {a b : List RT}, AltL g n (a ++ b) i j ↔ AltL g n a i j ∨ AltL g n b i j
  | [], b => by simp [AltL]
  | u :: a, b => by rw [List.cons_append, AltL, AltL, altL_append, or_assoc]
theorem lead_alt {g : W4 → Nat → Prop} {n i j : Nat} : ∀ {ts : List RT}, ts ≠ [] → (Lead g n (gatherR 3 ts) i j ↔ AltL g n ts i j)
  | [], h => absurd rfl h
  | [t], _ => by show Lead g n t i j ↔ _; simp [AltL]
  | t :: u :: l, _ => by
    show Lead g n (.mk 3 W4.zero (t :: u :: l)) i j ↔ _
    conv => lhs; unfold Lead
    rw [if_neg (by decide), if_pos rfl]
theorem top_parts {l : List UInt8} {t : RT} {r : List UInt8} (h : topR withW notW orW l = .ok (t, r)) :
    ∃ t1 r1 ts, partR withW notW orW (grpR withW notW orW 20) l = .ok (t1, r1) ∧ patLoop withW notW orW (grpR withW notW orW 20) (r1.length + 1) r1 [t1] = .ok (ts, []) ∧ t = gatherR 3 ts ∧ ts ≠ [] ∧ r = [] := by
  unfold topR patR at h
  cases hp : partR withW notW orW (grpR withW notW orW 20) l with
  | error z => rw [hp] at h; cases h
  | ok z =>
    obtain ⟨t1, r1⟩ := z
    rw [hp] at h
    simp only at h
    cases hq : patLoop withW notW orW (grpR withW notW orW 20) (r1.length + 1) r1 [t1] with
    | error z => rw [hq] at h; cases h
    | ok z =>
      obtain ⟨ts, r2⟩ := z
      rw [hq] at h
      rcases r2 with _ | ⟨c, r2⟩
      · cases h
        exact ⟨t1, r1, ts, rfl, hq, rfl, pat_grow _ _ _ _ _ hq (by simp), rfl⟩
      · cases h
/-- Two patterns with | between. -/
theorem top_bar {a b : List UInt8} {t1 t2 : RT} {r1 r2 : List UInt8} (h1 : topR withW notW orW a = .ok (t1, r1)) (h2 : topR withW notW orW b = .ok (t2, r2)) :
    ∃ t3, topR withW notW orW (a ++ 124 :: b) = .ok (t3, []) ∧ ∀ (g : W4 → Nat → Prop) (n i j : Nat), Lead g n t3 i j ↔ Lead g n t1 i j ∨ Lead g n t2 i j := by
  obtain ⟨u1, ra, us, p1, q1, rfl, n1, _⟩ := top_parts h1
  obtain ⟨u2, rb, vs, p2, q2, rfl, n2, _⟩ := top_parts h2
  have hb := (part_fine (grp_fine 20) p2).2
  have hs : 1 ≤ sizeN u2 := by cases u2; rw [sizeN]; omega
  refine ⟨gatherR 3 (us ++ vs), ?_, fun g n i j => ?_⟩
  · have e1 := partR_bar (grp_sfx 20) b p1
    have e2 := pat_bar (grp_sfx 20) p2 q2 (k := b.length + 1) (by omega) _ _ _ _ q1
    unfold topR patR
    rw [e1]
    simp only
    rw [List.length_append, List.length_cons, show ra.length + (b.length + 1) + 1 = ra.length + 1 + (b.length + 1) from by omega, e2]
  · rw [lead_alt (by simp [n1]), lead_alt n1, lead_alt n2, altL_append]
theorem met_bar {s : ByteArray} {t1 t2 t3 : RT} (h : ∀ (g : W4 → Nat → Prop) (n i j : Nat), Lead g n t3 i j ↔ Lead g n t1 i j ∨ Lead g n t2 i j) (i j : Nat) : Met s t3 i j ↔ Met s t1 i j ∨ Met s t2 i j := by
  unfold Met
  rw [h]
  constructor
  · rintro ⟨h1, h2 | h2⟩
    · exact .inl ⟨h1, h2⟩
    · exact .inr ⟨h1, h2⟩
  · rintro (⟨h1, h2⟩ | ⟨h1, h2⟩)
    · exact ⟨h1, .inl h2⟩
    · exact ⟨h1, .inr h2⟩
/-- A tree between the text's beginning and its end. -/
def wholeT (t : RT) : RT := .mk 2 W4.zero [.mk 7 W4.zero [], t, .mk 8 W4.zero []]
theorem lead_begin {g : W4 → Nat → Prop} {n : Nat} {st : W4} {i j : Nat} : Lead g n (.mk 7 st []) i j ↔ i = j ∧ i = 0 := by
  unfold Lead
  rw [if_neg (by decide), if_neg (by decide), if_pos rfl]
theorem lead_end {g : W4 → Nat → Prop} {n : Nat} {st : W4} {i j : Nat} : Lead g n (.mk 8 st []) i j ↔ i = j ∧ i = n := by
  unfold Lead
  rw [if_neg (by decide), if_neg (by decide), if_neg (by decide), if_pos rfl]
theorem met_whole {s : ByteArray} {t : RT} : InIs s (wholeT t) ↔ Met s t 0 s.size := by
  unfold InIs Met wholeT
  constructor
  · rintro ⟨i, j, hj, h⟩
    rw [lead_cat, catL_cons] at h
    obtain ⟨k, h1, h2⟩ := h
    rw [catL_cons] at h2
    obtain ⟨k2, h3, h4⟩ := h2
    rw [catL_one, lead_end] at h4
    rw [lead_begin] at h1
    obtain ⟨rfl, rfl⟩ := h1
    obtain ⟨rfl, rfl⟩ := h4
    exact ⟨Nat.le_refl _, h3⟩
  · rintro ⟨_, h⟩
    exact ⟨0, s.size, Nat.le_refl _, lead_cat.2 (catL_cons.2 ⟨0, lead_begin.2 ⟨rfl, rfl⟩, catL_cons.2 ⟨s.size, h, catL_one.2 (lead_end.2 ⟨rfl, rfl⟩)⟩⟩)⟩
/-- A pattern between ^( and )$. -/
theorem top_whole {l r : List UInt8} {t : RT} (h : topR withW notW orW l = .ok (t, r)) :
    topR withW notW orW (94 :: 40 :: (l ++ [41, 36])) = .ok (wholeT t, []) ∨ ∃ p, topR withW notW orW (94 :: 40 :: (l ++ [41, 36])) = .error (p, 14) := by
  have hp : patR withW notW orW (grpR withW notW orW 20) l = .ok (t, []) := by
    unfold topR at h
    cases hp : patR withW notW orW (grpR withW notW orW 20) l with
    | error z => rw [hp] at h; cases h
    | ok z =>
      obtain ⟨t1, r1⟩ := z
      rw [hp] at h
      rcases r1 with _ | ⟨c, r1⟩
      · cases h; rfl
      · cases h
  have hpart : ∀ (z : PR RT), grpR withW notW orW 20 (l ++ [41, 36]) = z → partLoop withW notW orW (grpR withW notW orW 20) ((94 :: 40 :: (l ++ [41, 36])).length + 1) (94 :: 40 :: (l ++ [41, 36])) [] = match z with
      | .error y => .error y
      | .ok (t, r2) => partLoop withW notW orW (grpR withW notW orW 20) ((l ++ [41, 36]).length + 1) r2 [.mk 7 W4.zero [], t] := fun z hz => by
    show partLoop withW notW orW (grpR withW notW orW 20) ((l ++ [41, 36]).length + 1 + 1 + 1) (94 :: 40 :: (l ++ [41, 36])) [] = _
    conv => lhs; unfold partLoop
    simp only
    rw [if_neg (by decide), if_neg (by decide)]
    rw [show thingR withW notW orW (grpR withW notW orW 20) (94 :: 40 :: (l ++ [41, 36])) = .ok (.mk 7 W4.zero [], 40 :: (l ++ [41, 36])) from rfl]
    simp only
    conv => lhs; unfold partLoop
    simp only
    rw [if_neg (by decide), if_neg (by decide)]
    rw [show thingR withW notW orW (grpR withW notW orW 20) (40 :: (l ++ [41, 36])) = grpR withW notW orW 20 (l ++ [41, 36]) from rfl, hz]
    cases z with
    | error y => rfl
    | ok y => rfl
  rcases patR_dp (grp_dp 19) l _ hp with h3 | ⟨p, h3⟩
  · left
    have hg : grpR withW notW orW 20 (l ++ [41, 36]) = .ok (t, [36]) := by
      show (match patR withW notW orW (grpR withW notW orW 19) (l ++ [41, 36]) with
        | .error x => .error x
        | .ok (t, r) => match r with
          | [] => .error ((l ++ [41, 36]).length + 1, 9)
          | c :: r2 => if c = 41 then .ok (t, r2) else .error ((l ++ [41, 36]).length + 1, 9) : PR RT) = _
      rw [patR_sfx (grp_sfx 19) [41, 36] h3 (.inr ⟨[36], rfl⟩)]
      rfl
    have h4 := hpart _ hg
    simp only at h4
    have h5 : ∀ f, partLoop withW notW orW (grpR withW notW orW 20) (f + 1 + 1) [36] [.mk 7 W4.zero [], t] = .ok ([.mk 7 W4.zero [], t, .mk 8 W4.zero []], []) := fun f => rfl
    have h6 : (l ++ [41, 36]).length + 1 = (l.length + 1) + 1 + 1 := by simp
    have h7 := h5 (l.length + 1)
    rw [← h6] at h7
    rw [h7] at h4
    unfold topR patR partR
    rw [h4]
    rfl
  · right
    obtain ⟨q, hq⟩ := patR_e14 (grp_sfx 19) (grp_e14 19) [41, 36] h3
    have hg : grpR withW notW orW 20 (l ++ [41, 36]) = .error (q, 14) := by
      show (match patR withW notW orW (grpR withW notW orW 19) (l ++ [41, 36]) with
        | .error x => .error x
        | .ok (t, r) => match r with
          | [] => .error ((l ++ [41, 36]).length + 1, 9)
          | c :: r2 => if c = 41 then .ok (t, r2) else .error ((l ++ [41, 36]).length + 1, 9) : PR RT) = _
      rw [hq]
    have h4 := hpart _ hg
    simp only at h4
    refine ⟨q, ?_⟩
    unfold topR patR partR
    rw [h4]
end Go.Proofs.YtjjejcgpeefclaaDoor
