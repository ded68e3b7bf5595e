/-
  MATHEMATICS of layer 9's reader: what is read is a tree as it should be, of not many nodes.
-/
import Derived.Test.YtjjejcgpeefclaaDoorMtC1
namespace Go.Proofs.YtjjejcgpeefclaaDoor
open Go.RowKit

theorem Wd.orr {f g : Nat → Bool} {v : Nat} {x y : Int} (h : Wd f v x) (h2 : Wd g v y) : Wd (fun c => f c || g c) v (orU x y) :=
  Wd.mk2 (orU_nat x y) (fun i hi => by rw [BW_or, h.bit i hi, h2.bit i hi])
theorem StF.or {f g : Nat → Bool} {S T : W4} (h : StF f S) (h2 : StF g T) : StF (fun c => f c || g c) (orW S T) := ⟨h.1.orr h2.1, h.2.1.orr h2.2.1, h.2.2.1.orr h2.2.2.1, h.2.2.2.orr h2.2.2.2⟩
theorem W4.Ok.zero : W4.zero.Ok := ⟨_, StF.zero⟩
theorem W4.Ok.with {s : W4} (h : s.Ok) (c : UInt8) : (withW s c).Ok := h.elim fun _ h => ⟨_, h.with c⟩
theorem W4.Ok.not {s : W4} (h : s.Ok) : (notW s).Ok := h.elim fun _ h => ⟨_, h.not⟩
theorem W4.Ok.or {s t : W4} (h : s.Ok) (h2 : t.Ok) : (orW s t).Ok := h.elim fun _ h => h2.elim fun _ h2 => ⟨_, h.or h2⟩
theorem rangeN_ok : ∀ (n c : Nat) (s : W4), s.Ok → (rangeN withW c n s).Ok
  | 0, _, _, h => h
  | n + 1, c, _, h => rangeN_ok n (c + 1) _ (h.with _)
theorem rangeW_ok (lo hi : UInt8) : (rangeW withW lo hi).Ok := rangeN_ok _ _ _ W4.Ok.zero
theorem next_less {l : List UInt8} {x : UInt8} {r : List UInt8} (h : nextR l = .ok (x, r)) : r.length + 1 ≤ l.length := by
  unfold nextR at h
  split at h
  · cases h
  · split at h
    · split at h
      · cases h
      · split at h
        · cases h
        · cases h; simp
    · cases h; simp
theorem span_fine {n : Nat} {l : List UInt8} {s : W4} {r : List UInt8} (h : spanR withW n l = .ok (s, r)) : s.Ok ∧ r.length ≤ l.length := by
  unfold spanR at h
  split at h
  · cases h; exact ⟨W4.Ok.zero, Nat.le_refl _⟩
  · split at h
    · cases h
    · rename_i lo r1 h1
      have e1 := next_less h1
      split at h
      · split at h
        · cases h
        · rename_i hi r2 h2
          have e2 := next_less h2
          split at h
          · cases h
          · cases h
            refine ⟨rangeW_ok _ _, ?_⟩
            have : (r1.drop 1).length ≤ r1.length := by simp
            omega
      · cases h
        exact ⟨rangeW_ok _ _, by omega⟩
theorem setLoop_fine : ∀ (f n : Nat) (l : List UInt8) (s : W4) (s2 : W4) (r : List UInt8), s.Ok → setLoop withW orW n f l s = .ok (s2, r) → s2.Ok ∧ r.length ≤ l.length
  | 0, n, l, s, s2, r, _, h => by unfold setLoop at h; cases h
  | f + 1, n, l, s, s2, r, hs, h => by
    unfold setLoop at h
    split at h
    · cases h
    · split at h
      · cases h; exact ⟨hs, by simp⟩
      · split at h
        · cases h
        · rename_i t r2 h1
          have e1 := span_fine h1
          have e2 := setLoop_fine f n r2 _ s2 r (hs.or e1.1) h
          exact ⟨e2.1, Nat.le_trans e2.2 e1.2⟩
theorem Fine.leaf {op : Nat} {s : W4} (hop : op ≤ 8) (hs : op = 1 → s.Ok) : RT.Fine (.mk op s []) := by
  unfold RT.Fine
  exact ⟨hop, fun _ => rfl, hs, by unfold FineL; trivial⟩
theorem size_leaf (op : Nat) (s : W4) : sizeN (.mk op s []) = 1 := by simp [sizeN, sizesN]
theorem set_fine {l : List UInt8} {t : RT} {r : List UInt8} (h : setR withW notW orW l = .ok (t, r)) : t.Fine ∧ sizeN t = 1 ∧ r.length ≤ l.length := by
  unfold setR at h
  simp only at h
  split at h
  · cases h
  · rename_i s r1 h1
    have e1 := span_fine h1
    split at h
    · cases h
    · rename_i s2 r2 h2
      have e2 := setLoop_fine _ _ _ _ _ _ e1.1 h2
      cases h
      refine ⟨Fine.leaf (by omega) (fun _ => ?_), size_leaf _ _, ?_⟩
      · split
        · exact e2.1.not
        · exact e2.1
      · have : (if l.head? = some 94 then l.drop 1 else l).length ≤ l.length := by split <;> simp
        omega
/-- What a group's reader answers. -/
def GFine (G : List UInt8 → PR RT) : Prop := ∀ l t r, G l = .ok (t, r) → t.Fine ∧ sizeN t + 3 * r.length ≤ 3 * l.length + 2
theorem thing_fine {G : List UInt8 → PR RT} (hG : GFine G) {l : List UInt8} {t : RT} {r : List UInt8} (h : thingR withW notW orW G l = .ok (t, r)) : t.Fine ∧ sizeN t + 3 * r.length ≤ 3 * l.length := by
  unfold thingR at h
  split at h
  · cases h
  · rename_i c r1
    split at h
    · have := hG _ _ _ h
      exact ⟨this.1, by simp; omega⟩
    · split at h
      · have := set_fine h
        exact ⟨this.1, by simp; omega⟩
      · split at h
        · cases h; exact ⟨Fine.leaf (by omega) (fun _ => W4.Ok.zero.not), by rw [size_leaf]; simp; omega⟩
        · split at h
          · cases h; exact ⟨Fine.leaf (by omega) (fun h => by omega), by rw [size_leaf]; simp; omega⟩
          · split at h
            · cases h; exact ⟨Fine.leaf (by omega) (fun h => by omega), by rw [size_leaf]; simp; omega⟩
            · split at h
              · cases h
              · rename_i b r2 h2
                have := next_less h2
                cases h
                exact ⟨Fine.leaf (by omega) (fun _ => W4.Ok.zero.with _), by rw [size_leaf]; simp at this ⊢; omega⟩
theorem often_op (c : UInt8) : oftenR c = 4 ∨ oftenR c = 5 ∨ oftenR c = 6 := by
  unfold oftenR
  split
  · exact .inl rfl
  · split
    · exact .inr (.inl rfl)
    · exact .inr (.inr rfl)
theorem partLoop_fine {G : List UInt8 → PR RT} (hG : GFine G) : ∀ (f : Nat) (l : List UInt8) (ts ts2 : List RT) (r : List UInt8), (∀ t ∈ ts, t.Fine) → partLoop withW notW orW G f l ts = .ok (ts2, r) → (∀ t ∈ ts2, t.Fine) ∧ sizesN ts2 + 3 * r.length ≤ sizesN ts + 3 * l.length
  | 0, l, ts, ts2, r, _, h => by unfold partLoop at h; cases h
  | f + 1, l, ts, ts2, r, hts, h => by
    unfold partLoop at h
    split at h
    · cases h; exact ⟨hts, by simp⟩
    · rename_i c r1
      split at h
      · cases h; exact ⟨hts, Nat.le_refl _⟩
      · split at h
        · split at h
          · cases h
          · rename_i t ht
            have hm : t ∈ ts := List.mem_of_getLast? ht
            have hsp : ts = ts.dropLast ++ [t] := by
              have hne : ts ≠ [] := fun e => by subst e; cases ht
              have := List.dropLast_concat_getLast hne
              rw [List.getLast?_eq_some_getLast hne] at ht
              injection ht with e
              rw [e] at this
              exact this.symm
            have e2 := partLoop_fine hG f r1 _ ts2 r (fun u hu => by
              rcases List.mem_append.1 hu with hu | hu
              · exact hts u ((List.dropLast_sublist ts).subset hu)
              · rw [List.mem_singleton] at hu
                subst hu
                unfold RT.Fine
                have := often_op c
                exact ⟨by omega, fun h => by omega, fun h => by omega, FineL.of fun v hv => by rw [List.mem_singleton] at hv; subst hv; exact hts _ hm⟩) h
            refine ⟨e2.1, ?_⟩
            have e3 := e2.2
            rw [sizesN_append] at e3
            have e4 : sizesN ts = sizesN ts.dropLast + sizeN t := by
              conv => lhs; rw [hsp]
              rw [sizesN_append]; simp [sizesN]
            simp [sizesN, sizeN] at e3 ⊢
            omega
        · split at h
          · cases h
          · rename_i t r2 h1
            have e1 := thing_fine hG h1
            have e2 := partLoop_fine hG f r2 _ ts2 r (fun u hu => by
              rcases List.mem_append.1 hu with hu | hu
              · exact hts u hu
              · rw [List.mem_singleton] at hu; subst hu; exact e1.1) h
            refine ⟨e2.1, ?_⟩
            have e3 := e2.2
            rw [sizesN_append] at e3
            simp [sizesN] at e3
            have := e1.2
            omega
theorem gather_fine {op : Nat} (hop : op = 2 ∨ op = 3) : ∀ {ts : List RT}, (∀ t ∈ ts, t.Fine) → (gatherR op ts).Fine ∧ sizeN (gatherR op ts) ≤ sizesN ts + 1
  | [], _ => ⟨Fine.leaf (by omega) (fun h => by omega), by show sizeN (.mk 0 W4.zero []) ≤ _; rw [size_leaf]; omega⟩
  | [t], h => ⟨h t (by simp), by show sizeN t ≤ _; simp [sizesN]⟩
  | t :: u :: l, h => ⟨by
      show RT.Fine (.mk op W4.zero (t :: u :: l))
      unfold RT.Fine
      exact ⟨by omega, fun h => by omega, fun h => by omega, FineL.of h⟩, by
      show sizeN (.mk op W4.zero (t :: u :: l)) ≤ _
      rw [sizeN]; omega⟩
theorem part_fine {G : List UInt8 → PR RT} (hG : GFine G) {l : List UInt8} {t : RT} {r : List UInt8} (h : partR withW notW orW G l = .ok (t, r)) : t.Fine ∧ sizeN t + 3 * r.length ≤ 3 * l.length + 1 := by
  unfold partR at h
  split at h
  · cases h
  · rename_i ts r1 h1
    have e1 := partLoop_fine hG _ _ _ _ _ (fun t ht => by cases ht) h1
    have e2 := gather_fine (op := 2) (.inl rfl) e1.1
    cases h
    refine ⟨e2.1, ?_⟩
    have e3 := e1.2
    simp [sizesN] at e3
    omega
theorem patLoop_fine {G : List UInt8 → PR RT} (hG : GFine G) : ∀ (f : Nat) (l : List UInt8) (ts ts2 : List RT) (r : List UInt8), (∀ t ∈ ts, t.Fine) → patLoop withW notW orW G f l ts = .ok (ts2, r) → (∀ t ∈ ts2, t.Fine) ∧ sizesN ts2 + 3 * r.length ≤ sizesN ts + 3 * l.length
  | 0, l, ts, ts2, r, _, h => by unfold patLoop at h; cases h
  | f + 1, l, ts, ts2, r, hts, h => by
    unfold patLoop at h
    split at h
    · cases h; exact ⟨hts, by simp⟩
    · rename_i c r1
      split at h
      · split at h
        · cases h
        · rename_i t r2 h1
          have e1 := part_fine hG h1
          have e2 := patLoop_fine hG f r2 _ ts2 r (fun u hu => by
            rcases List.mem_append.1 hu with hu | hu
            · exact hts u hu
            · rw [List.mem_singleton] at hu; subst hu; exact e1.1) h
          refine ⟨e2.1, ?_⟩
          have e3 := e2.2
          rw [sizesN_append] at e3
          simp [sizesN] at e3
          have := e1.2
          simp
          omega
      · cases h; exact ⟨hts, Nat.le_refl _⟩
theorem pat_fine {G : List UInt8 → PR RT} (hG : GFine G) : GFine (patR withW notW orW G) := by
  intro l t r h
  unfold patR at h
  split at h
  · cases h
  · rename_i t1 r1 h1
    have e1 := part_fine hG h1
    split at h
    · cases h
    · rename_i ts r2 h2
      have e2 := patLoop_fine hG _ _ _ _ _ (fun u hu => by rw [List.mem_singleton] at hu; subst hu; exact e1.1) h2
      have e3 := gather_fine (op := 3) (.inr rfl) e2.1
      cases h
      refine ⟨e3.1, ?_⟩
      have e4 := e2.2
      simp [sizesN] at e4
      have := e1.2
      omega
theorem grp_fine : ∀ d, GFine (grpR withW notW orW d)
  | 0 => fun l t r h => by unfold grpR at h; cases h
  | d + 1 => fun l t r h => by
    unfold grpR at h
    split at h
    · cases h
    · rename_i t1 r1 h1
      have e1 := pat_fine (grp_fine d) _ _ _ h1
      split at h
      · cases h
      · split at h
        · cases h
          refine ⟨e1.1, ?_⟩
          have := e1.2
          simp at this
          omega
        · cases h
theorem top_fine {l : List UInt8} {t : RT} {r : List UInt8} (h : topR withW notW orW l = .ok (t, r)) : t.Fine ∧ sizeN t ≤ 3 * l.length + 2 := by
  unfold topR at h
  split at h
  · cases h
  · rename_i t1 r1 h1
    have e1 := pat_fine (grp_fine 20) _ _ _ h1
    split at h
    · cases h
      refine ⟨e1.1, ?_⟩
      have := e1.2
      omega
    · cases h
end Go.Proofs.YtjjejcgpeefclaaDoor
