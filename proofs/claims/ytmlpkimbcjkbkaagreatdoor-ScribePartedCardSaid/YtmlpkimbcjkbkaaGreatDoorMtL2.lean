/-
  MATHEMATICS of layer 10's laws: a pattern without ^ and $ is met by a part of a text just as by the text there.
-/
import Derived.Test.YtmlpkimbcjkbkaaGreatDoorMtL1
namespace Go.Proofs.YtmlpkimbcjkbkaaGreatDoor

/-- Neither the text's beginning nor its end is asked for. -/
def NoB (l : List UInt8) : Prop := ∀ c ∈ l, c ≠ 94 ∧ c ≠ 36
mutual
def NoE : RT → Prop
  | .mk op _ ks => op ≠ 7 ∧ op ≠ 8 ∧ NoEL ks
def NoEL : List RT → Prop
  | [] => True
  | t :: ts => NoE t ∧ NoEL ts
end
theorem NoEL.of : ∀ {ts : List RT}, (∀ t ∈ ts, NoE t) → NoEL ts
  | [], _ => by unfold NoEL; trivial
  | t :: ts, h => by unfold NoEL; exact ⟨h t (by simp), NoEL.of fun u hu => h u (by simp [hu])⟩
theorem NoE.leaf {op : Nat} {s : W4} (h7 : op ≠ 7) (h8 : op ≠ 8) : NoE (.mk op s []) := by
  unfold NoE
  exact ⟨h7, h8, NoEL.of fun t ht => by cases ht⟩
theorem NoB.sub {l r : List UInt8} (h : NoB l) (hs : r ⊆ l) : NoB r := fun c hc => h c (hs hc)
theorem next_sub {l : List UInt8} {x : UInt8} {r : List UInt8} (h : nextR l = .ok (x, r)) : r ⊆ l := by
  unfold nextR at h
  split at h
  · cases h
  · split at h
    · split at h
      · cases h
      · split at h
        · cases h
        · cases h; intro c hc; simp [hc]
    · cases h; intro c hc; simp [hc]
theorem span_sub {n : Nat} {l : List UInt8} {s : W4} {r : List UInt8} (h : spanR withW n l = .ok (s, r)) : r ⊆ l := by
  unfold spanR at h
  split at h
  · cases h; exact fun _ h => h
  · split at h
    · cases h
    · rename_i lo r1 h1
      have e1 := next_sub h1
      split at h
      · split at h
        · cases h
        · rename_i hi r2 h2
          have e2 := next_sub h2
          split at h
          · cases h
          · cases h
            exact fun c hc => e1 (List.mem_of_mem_drop (e2 hc))
      · cases h
        exact e1
theorem setLoop_sub : ∀ (f n : Nat) (l : List UInt8) (s : W4) (s2 : W4) (r : List UInt8), setLoop withW orW n f l s = .ok (s2, r) → r ⊆ l
  | 0, n, l, s, s2, r, h => by unfold setLoop at h; cases h
  | f + 1, n, l, s, s2, r, h => by
    unfold setLoop at h
    split at h
    · cases h
    · split at h
      · cases h; intro c hc; simp [hc]
      · split at h
        · cases h
        · rename_i t r2 h1
          have e1 := span_sub h1
          exact fun c hc => e1 (setLoop_sub f n r2 _ s2 r h hc)
theorem set_no {l : List UInt8} {t : RT} {r : List UInt8} (h : setR withW notW orW l = .ok (t, r)) : NoE t ∧ r ⊆ l := by
  unfold setR at h
  simp only at h
  split at h
  · cases h
  · rename_i s r1 h1
    have e1 := span_sub h1
    split at h
    · cases h
    · rename_i s2 r2 h2
      have e2 := setLoop_sub _ _ _ _ _ _ h2
      cases h
      refine ⟨NoE.leaf (by omega) (by omega), fun c hc => ?_⟩
      have := e1 (e2 hc)
      split at this
      · exact List.mem_of_mem_drop this
      · exact this
def GNo (G : List UInt8 → PR RT) : Prop := ∀ l t r, NoB l → G l = .ok (t, r) → NoE t ∧ r ⊆ l
theorem thing_no {G : List UInt8 → PR RT} (hG : GNo G) {l : List UInt8} {t : RT} {r : List UInt8} (hb : NoB l) (h : thingR withW notW orW G l = .ok (t, r)) : NoE t ∧ r ⊆ l := by
  unfold thingR at h
  split at h
  · cases h
  · rename_i c r1
    have hs : r1 ⊆ c :: r1 := fun x hx => by simp [hx]
    split at h
    · have := hG _ _ _ (hb.sub hs) h
      exact ⟨this.1, fun x hx => hs (this.2 hx)⟩
    · split at h
      · have := set_no h
        exact ⟨this.1, fun x hx => hs (this.2 hx)⟩
      · split at h
        · cases h; exact ⟨NoE.leaf (by omega) (by omega), hs⟩
        · split at h
          · rename_i h94
            exact absurd h94 (hb c (by simp)).1
          · split at h
            · rename_i h36
              exact absurd h36 (hb c (by simp)).2
            · split at h
              · cases h
              · rename_i b r2 h2
                have := next_sub h2
                cases h
                exact ⟨NoE.leaf (by omega) (by omega), this⟩
theorem partLoop_no {G : List UInt8 → PR RT} (hG : GNo G) : ∀ (f : Nat) (l : List UInt8) (ts ts2 : List RT) (r : List UInt8), NoB l → (∀ t ∈ ts, NoE t) → partLoop withW notW orW G f l ts = .ok (ts2, r) → (∀ t ∈ ts2, NoE t) ∧ r ⊆ l
  | 0, l, ts, ts2, r, _, _, h => by unfold partLoop at h; cases h
  | f + 1, l, ts, ts2, r, hb, hts, h => by
    unfold partLoop at h
    split at h
    · cases h; exact ⟨hts, fun _ h => h⟩
    · rename_i c r1
      have hs : r1 ⊆ c :: r1 := fun x hx => by simp [hx]
      split at h
      · cases h; exact ⟨hts, fun _ h => h⟩
      · split at h
        · split at h
          · cases h
          · rename_i t ht
            have hm : t ∈ ts := List.mem_of_getLast? ht
            have e2 := partLoop_no hG f r1 _ ts2 r (hb.sub hs) (fun u hu => by
              rcases List.mem_append.1 hu with hu | hu
              · exact hts u ((List.dropLast_sublist ts).subset hu)
              · rw [List.mem_singleton] at hu
                subst hu
                unfold NoE
                have := often_op c
                exact ⟨by omega, by omega, NoEL.of fun v hv => by rw [List.mem_singleton] at hv; subst hv; exact hts _ hm⟩) h
            exact ⟨e2.1, fun x hx => hs (e2.2 hx)⟩
        · split at h
          · cases h
          · rename_i t r2 h1
            have e1 := thing_no hG hb h1
            have e2 := partLoop_no hG f r2 _ ts2 r (hb.sub e1.2) (fun u hu => by
              rcases List.mem_append.1 hu with hu | hu
              · exact hts u hu
              · rw [List.mem_singleton] at hu; subst hu; exact e1.1) h
            exact ⟨e2.1, fun x hx => e1.2 (e2.2 hx)⟩
theorem gather_no {op : Nat} (hop : op = 2 ∨ op = 3) : ∀ {ts : List RT}, (∀ t ∈ ts, NoE t) → NoE (gatherR op ts)
  | [], _ => NoE.leaf (by omega) (by omega)
  | [t], h => h t (by simp)
  | t :: u :: l, h => by
      show NoE (.mk op W4.zero (t :: u :: l))
      unfold NoE
      exact ⟨by omega, by omega, NoEL.of h⟩
theorem part_no {G : List UInt8 → PR RT} (hG : GNo G) {l : List UInt8} {t : RT} {r : List UInt8} (hb : NoB l) (h : partR withW notW orW G l = .ok (t, r)) : NoE t ∧ r ⊆ l := by
  unfold partR at h
  split at h
  · cases h
  · rename_i ts r1 h1
    have e1 := partLoop_no hG _ _ _ _ _ hb (fun t ht => by cases ht) h1
    have e2 := gather_no (op := 2) (.inl rfl) e1.1
    cases h
    exact ⟨e2, e1.2⟩
theorem patLoop_no {G : List UInt8 → PR RT} (hG : GNo G) : ∀ (f : Nat) (l : List UInt8) (ts ts2 : List RT) (r : List UInt8), NoB l → (∀ t ∈ ts, NoE t) → patLoop withW notW orW G f l ts = .ok (ts2, r) → (∀ t ∈ ts2, NoE t) ∧ r ⊆ l
  | 0, l, ts, ts2, r, _, _, h => by unfold patLoop at h; cases h
  | f + 1, l, ts, ts2, r, hb, hts, h => by
    unfold patLoop at h
    split at h
    · cases h; exact ⟨hts, fun _ h => h⟩
    · rename_i c r1
      have hs : r1 ⊆ c :: r1 := fun x hx => by simp [hx]
      split at h
      · split at h
        · cases h
        · rename_i t r2 h1
          have e1 := part_no hG (hb.sub hs) h1
          have e2 := patLoop_no hG f r2 _ ts2 r ((hb.sub hs).sub e1.2) (fun u hu => by
            rcases List.mem_append.1 hu with hu | hu
            · exact hts u hu
            · rw [List.mem_singleton] at hu; subst hu; exact e1.1) h
          exact ⟨e2.1, fun x hx => hs (e1.2 (e2.2 hx))⟩
      · cases h; exact ⟨hts, fun _ h => h⟩
theorem pat_no {G : List UInt8 → PR RT} (hG : GNo G) : GNo (patR withW notW orW G) := by
  intro l t r hb h
  unfold patR at h
  split at h
  · cases h
  · rename_i t1 r1 h1
    have e1 := part_no hG hb h1
    split at h
    · cases h
    · rename_i ts r2 h2
      have e2 := patLoop_no hG _ _ _ _ _ (hb.sub e1.2) (fun u hu => by rw [List.mem_singleton] at hu; subst hu; exact e1.1) h2
      have e3 := gather_no (op := 3) (.inr rfl) e2.1
      cases h
      exact ⟨e3, fun x hx => e1.2 (e2.2 hx)⟩
theorem grp_no : ∀ d, GNo (grpR withW notW orW d)
  | 0 => fun l t r _ h => by unfold grpR at h; cases h
  | d + 1 => fun l t r hb h => by
    unfold grpR at h
    split at h
    · cases h
    · rename_i t1 r1 h1
      have e1 := pat_no (grp_no d) _ _ _ hb h1
      split at h
      · cases h
      · split at h
        · cases h
          exact ⟨e1.1, fun x hx => e1.2 (by simp [hx])⟩
        · cases h
/-- What is read from a pattern without ^ and $. -/
theorem top_no {l : List UInt8} {t : RT} {r : List UInt8} (hb : NoB l) (h : topR withW notW orW l = .ok (t, r)) : NoE t := by
  unfold topR at h
  split at h
  · cases h
  · rename_i t1 r1 h1
    have e1 := pat_no (grp_no 20) _ _ _ hb h1
    split at h
    · cases h
      exact e1.1
    · cases h
theorem often_shift {R R2 : Nat → Nat → Prop} {a m : Nat} (hle : ∀ i j, R i j → i ≤ j) (hle2 : ∀ i j, R2 i j → i ≤ j) (h : ∀ i j, j ≤ m → (R i j ↔ R2 (a + i) (a + j))) {i j : Nat} (hj : j ≤ m) : Often R i j ↔ Often R2 (a + i) (a + j) := by
  constructor
  · intro ho
    induction ho with
    | none i => exact .none _
    | @more i k j h1 h2 ih =>
      have hk : k ≤ j := Often.le hle h2
      exact .more ((h i k (by omega)).1 h1) (ih hj)
  · intro ho
    have key : ∀ x y, Often R2 x y → ∀ i j, x = a + i → y = a + j → j ≤ m → Often R i j := by
      intro x y ho
      induction ho with
      | none x =>
        intro i j h1 h2 _
        obtain rfl : i = j := by omega
        exact .none _
      | @more x k y h1 h2 ih =>
        intro i j e1 e2 hj
        have h3 := hle2 _ _ h1
        have h4 : k ≤ y := Often.le hle2 h2
        obtain ⟨k2, rfl⟩ : ∃ k2, k = a + k2 := ⟨k - a, by omega⟩
        subst e1
        exact .more ((h i k2 (by omega)).2 h1) (ih k2 j rfl e2 hj)
    exact key _ _ ho i j rfl rfl hj
section
variable {g1 g2 : W4 → Nat → Prop} {n1 n2 a m : Nat}
mutual
theorem lead_shift (h : ∀ st i, i < m → ((g1 st i ∧ i < n1) ↔ (g2 st (a + i) ∧ a + i < n2))) : ∀ (t : RT), NoE t → ∀ i j, j ≤ m → (Lead g1 n1 t i j ↔ Lead g2 n2 t (a + i) (a + j))
  | .mk op st ks, hn, i, j, hj => by
    unfold NoE at hn
    obtain ⟨h7, h8, hk⟩ := hn
    have hC := fun i j hj => catL_shift h ks hk i j hj
    unfold Lead
    split
    · constructor
      · rintro ⟨h1, h2, rfl⟩
        have := (h st i (by omega)).1 ⟨h1, h2⟩
        exact ⟨this.1, this.2, by omega⟩
      · rintro ⟨h1, h2, h3⟩
        have := (h st i (by omega)).2 ⟨h1, h2⟩
        exact ⟨this.1, this.2, by omega⟩
    split
    · exact altL_shift h ks hk i j hj
    split
    · exact often_shift (CatL.le _ _ ks) (CatL.le _ _ ks) hC hj
    split
    · constructor
      · rintro ⟨k, h1, h2⟩
        have h3 := Often.le (CatL.le _ _ ks) h2
        exact ⟨a + k, (hC i k (by omega)).1 h1, (often_shift (CatL.le _ _ ks) (CatL.le _ _ ks) hC hj).1 h2⟩
      · rintro ⟨k, h1, h2⟩
        have h3 := Often.le (CatL.le _ _ ks) h2
        have h4 := CatL.le _ _ ks _ _ h1
        obtain ⟨k2, rfl⟩ : ∃ k2, k = a + k2 := ⟨k - a, by omega⟩
        exact ⟨k2, (hC i k2 (by omega)).2 h1, (often_shift (CatL.le _ _ ks) (CatL.le _ _ ks) hC hj).2 h2⟩
    split
    · rw [hC i j hj, show (a + i = a + j ↔ i = j) from by omega]
    · exact hC i j hj
theorem catL_shift (h : ∀ st i, i < m → ((g1 st i ∧ i < n1) ↔ (g2 st (a + i) ∧ a + i < n2))) : ∀ (ts : List RT), NoEL ts → ∀ i j, j ≤ m → (CatL g1 n1 ts i j ↔ CatL g2 n2 ts (a + i) (a + j))
  | [], _, i, j, _ => by unfold CatL; omega
  | t :: ts, hn, i, j, hj => by
    unfold NoEL at hn
    unfold CatL
    constructor
    · rintro ⟨k, h1, h2⟩
      have h3 := CatL.le _ _ ts _ _ h2
      exact ⟨a + k, (lead_shift h t hn.1 i k (by omega)).1 h1, (catL_shift h ts hn.2 k j hj).1 h2⟩
    · rintro ⟨k, h1, h2⟩
      have h3 := CatL.le _ _ ts _ _ h2
      have h4 := Lead.le _ _ t _ _ h1
      obtain ⟨k2, rfl⟩ : ∃ k2, k = a + k2 := ⟨k - a, by omega⟩
      exact ⟨k2, (lead_shift h t hn.1 i k2 (by omega)).2 h1, (catL_shift h ts hn.2 k2 j hj).2 h2⟩
theorem altL_shift (h : ∀ st i, i < m → ((g1 st i ∧ i < n1) ↔ (g2 st (a + i) ∧ a + i < n2))) : ∀ (ts : List RT), NoEL ts → ∀ i j, j ≤ m → (AltL g1 n1 ts i j ↔ AltL g2 n2 ts (a + i) (a + j))
  | [], _, i, j, _ => by unfold AltL; exact Iff.rfl
  | t :: ts, hn, i, j, hj => by
    unfold NoEL at hn
    unfold AltL
    rw [lead_shift h t hn.1 i j hj, altL_shift h ts hn.2 i j hj]
end
end
/-- A part of a text is met by a pattern without ^ and $ just as the text is there. -/
theorem met_part {s u : ByteArray} {t : RT} (hn : NoE t) {i j : Nat} (hij : i ≤ j) (hj : j ≤ s.size) (hu : u.data.toList = (s.data.toList.take j).drop i) : Met u t 0 u.size ↔ Met s t i j := by
  have hsz : u.size = j - i := by
    have := congrArg List.length hu
    simp at this
    rw [this, Nat.min_eq_left hj]
  have key : ∀ (k : Nat) (h1 : k < u.size) (h2 : i + k < s.size), u[k]'h1 = s[i + k]'h2 := fun k h1 h2 => by
    have e1 : u.data.toList[k]? = s.data.toList[i + k]? := by
      rw [hu, List.getElem?_drop, List.getElem?_take, if_pos (by omega)]
    rw [List.getElem?_eq_getElem (by rw [Array.length_toList, ByteArray.size_data]; exact h1), List.getElem?_eq_getElem (by rw [Array.length_toList, ByteArray.size_data]; exact h2)] at e1
    injection e1 with e1
  have hS := lead_shift (g1 := gS u) (g2 := gS s) (n1 := u.size) (n2 := s.size) (a := i) (m := j - i) (fun st k hk => by
    unfold gS
    constructor
    · rintro ⟨⟨h1, h2⟩, h3⟩
      have h4 : i + k < s.size := by omega
      rw [key k h1 h4] at h2
      exact ⟨⟨h4, h2⟩, h4⟩
    · rintro ⟨⟨h1, h2⟩, h3⟩
      have h4 : k < u.size := by omega
      rw [← key k h4 h1] at h2
      exact ⟨⟨h4, h2⟩, h4⟩) t hn 0 (j - i) (Nat.le_refl _)
  unfold Met
  rw [hsz] at hS ⊢
  rw [Nat.add_zero, show i + (j - i) = j from by omega] at hS
  rw [hS]
  exact ⟨fun h => ⟨hj, h.2⟩, fun h => ⟨Nat.le_refl _, h.2⟩⟩
end Go.Proofs.YtmlpkimbcjkbkaaGreatDoor
