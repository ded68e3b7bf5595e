/-
  MATHEMATICS of layer 9: how long a tree's text can be: at most 70 bytes for each byte of the pattern.
-/
import Derived.Test.YtpcnlojlfbgaoaaRgI
import Derived.Test.YtpcnlojlfbgaoaaRgQ
namespace Go.Proofs.Ytpcnlojlfbgaoaa
open Go.RowKit

theorem printL_len (op : Nat) (st : W4) (ks : List RT) : (printL (.mk op st ks)).length = 1 + (setL op st).length + (kidsL ks).length := by
  rw [printL_eq]; simp; omega
theorem kidsL_len_cons (t : RT) (ts : List RT) : (kidsL (t :: ts)).length = (printL t).length + 2 + (kidsL ts).length := by
  rw [kidsL]; simp; omega
theorem kidsL_len_app (a b : List RT) : (kidsL (a ++ b)).length = (kidsL a).length + (kidsL b).length := by rw [kidsL_append, List.length_append]
theorem kidsL_nil : (kidsL []).length = 0 := by rw [kidsL]; rfl
theorem setL_len (op : Nat) (st : W4) : (setL op st).length ≤ 64 := by
  unfold setL
  split
  · simp [hex4, wordsL, hexD_len]
  · simp
theorem setL_no {op : Nat} (st : W4) (h : op ≠ 1) : (setL op st).length = 0 := by unfold setL; rw [if_neg h]; rfl
theorem leaf_len (op : Nat) (st : W4) : (printL (.mk op st [])).length ≤ 65 := by
  have := setL_len op st
  rw [printL_len, kidsL_nil]; omega
theorem gather_len (op : Nat) (h : op ≠ 1) : ∀ ts : List RT, (printL (gatherR op ts)).length ≤ (kidsL ts).length + 1
  | [] => by
    show (printL (.mk 0 W4.zero [])).length ≤ _
    rw [printL_len, kidsL_nil, setL_no _ (by decide)]; omega
  | [t] => by
    show (printL t).length ≤ _
    rw [kidsL_len_cons, kidsL_nil]; omega
  | t :: u :: ts => by
    show (printL (.mk op W4.zero (t :: u :: ts))).length ≤ _
    rw [printL_len, setL_no _ h]; omega
/-- What a group costs. -/
def Cost (G : List UInt8 → PR RT) : Prop := ∀ l t r, G l = .ok (t, r) → r.length ≤ l.length ∧ (printL t).length + 70 * r.length ≤ 70 * l.length
theorem Cost.len {G : List UInt8 → PR RT} (h : Cost G) : ∀ l t r, G l = .ok (t, r) → r.length ≤ l.length := fun l t r e => (h l t r e).1
theorem thing_cost {G : List UInt8 → PR RT} {x : UInt8} {r r2 : List UInt8} {t : RT} (h : thingR withW notW orW G (x :: r) = .ok (t, r2)) (hG : Cost G) : (printL t).length + 2 + 70 * r2.length ≤ 70 * (r.length + 1) := by
  have hl := rg_thingR_len h hG.len
  simp only [thingR] at h
  split at h
  · have := (hG _ _ _ h).2
    omega
  · have hk : (printL t).length ≤ 65 := by
      split at h
      · unfold setR at h
        simp only at h
        split at h
        · cases h
        · split at h
          · cases h
          · cases h; exact leaf_len _ _
      · split at h
        · cases h; exact leaf_len _ _
        · split at h
          · cases h; exact leaf_len _ _
          · split at h
            · cases h; exact leaf_len _ _
            · split at h
              · cases h
              · cases h; exact leaf_len _ _
    omega
theorem partLoop_cost {G : List UInt8 → PR RT} (hG : Cost G) : ∀ (f : Nat) (l : List UInt8) (ts us : List RT) (r : List UInt8), partLoop withW notW orW G f l ts = .ok (us, r) → (kidsL us).length + 70 * r.length ≤ (kidsL ts).length + 70 * l.length
  | 0, l, ts, us, r, h => by cases h
  | f + 1, l, ts, us, r, h => by
    unfold partLoop at h
    rcases l with _ | ⟨c, l⟩
    · cases h; simp
    · simp only at h
      split at h
      · cases h; simp
      · split at h
        · split at h
          · cases h
          · rename_i t ht
            have h2 := partLoop_cost hG f _ _ _ _ h
            obtain ⟨ys, rfl⟩ := List.getLast?_eq_some_iff.1 ht
            rw [List.dropLast_concat] at h2
            rw [kidsL_len_app, kidsL_len_cons, kidsL_nil]
            rw [kidsL_len_app, kidsL_len_cons, kidsL_nil, printL_len, kidsL_len_cons, kidsL_nil] at h2
            have h4 : (setL (oftenR c) W4.zero).length = 0 := setL_no _ (by unfold oftenR; split <;> (try split) <;> decide)
            simp only [List.length_cons]; omega
        · split at h
          · cases h
          · rename_i t2 r2 hx
            have h1 := thing_cost hx hG
            have h2 := partLoop_cost hG f _ _ _ _ h
            rw [kidsL_len_app, kidsL_len_cons, kidsL_nil] at h2
            simp only [List.length_cons]; omega
theorem part_cost {G : List UInt8 → PR RT} (hG : Cost G) {l r : List UInt8} {t : RT} (h : partR withW notW orW G l = .ok (t, r)) : (printL t).length + 70 * r.length ≤ 70 * l.length + 1 := by
  rw [partR_eq] at h
  unfold partF at h
  split at h
  · cases h
  · rename_i ts r2 hx
    cases h
    have h1 := partLoop_cost hG _ _ _ _ _ hx
    have h2 := gather_len 2 (by decide) ts
    rw [kidsL_nil] at h1
    omega
theorem patLoop_cost {G : List UInt8 → PR RT} (hG : Cost G) : ∀ (f : Nat) (l : List UInt8) (ts us : List RT) (r : List UInt8), patLoop withW notW orW G f l ts = .ok (us, r) → (kidsL us).length + 70 * r.length ≤ (kidsL ts).length + 70 * l.length
  | 0, l, ts, us, r, h => by cases h
  | f + 1, l, ts, us, r, h => by
    unfold patLoop at h
    rcases l with _ | ⟨c, l⟩
    · cases h; simp
    · simp only at h
      split at h
      · split at h
        · cases h
        · rename_i t2 r2 hx
          have h1 := part_cost hG hx
          have h2 := patLoop_cost hG f _ _ _ _ h
          rw [kidsL_len_app, kidsL_len_cons, kidsL_nil] at h2
          simp only [List.length_cons]; omega
      · cases h; simp
theorem pat_cost {G : List UInt8 → PR RT} (hG : Cost G) {l r : List UInt8} {t : RT} (h : patR withW notW orW G l = .ok (t, r)) : (printL t).length + 70 * r.length ≤ 70 * l.length + 4 := by
  rw [patR_eq] at h
  unfold partF patX at h
  split at h
  · cases h
  · rename_i ts r2 hx
    cases h
    split at hx
    · cases hx
    · rename_i t3 r3 hy
      have h1 := part_cost hG hy
      have h2 := patLoop_cost hG _ _ _ _ _ hx
      have h3 := gather_len 3 (by decide) ts
      rw [kidsL_len_cons, kidsL_nil] at h2
      omega
theorem grp_cost : ∀ (d : Nat), Cost (grpR withW notW orW d)
  | 0, l, t, r, h => by cases h
  | d + 1, l, t, r, h => by
    refine ⟨rg_grpR_len _ _ _ _ h, ?_⟩
    unfold grpR at h
    split at h
    · cases h
    · rename_i t2 r2 hx
      have h1 := pat_cost (grp_cost d) hx
      split at h
      · cases h
      · split at h
        · cases h
          simp only [List.length_cons] at h1; omega
        · cases h
theorem top_cost {l r : List UInt8} {t : RT} (h : topR withW notW orW l = .ok (t, r)) : (printL t).length ≤ 70 * l.length + 4 := by
  unfold topR at h
  split at h
  · cases h
  · rename_i t2 r2 hx
    have h1 := pat_cost (grp_cost 20) hx
    split at h
    · cases h; omega
    · cases h
end Go.Proofs.Ytpcnlojlfbgaoaa
