/-
  CONTRACT of layer 10's newBuilder.
-/
import Derived.Test.YtjjejcgpeefclaaDoorMtC1
namespace Go.Proofs.YtjjejcgpeefclaaDoor
open Go.RowKit

theorem Wd.orr {f g : Nat → Bool} {v : Nat} {x y : Int} (h : Wd f v x) (h2 : Wd g v y) : Wd (fun c => f c || g c) v (orU x y) :=
  Wd.mk2 (orU_nat x y) (fun i hi => by rw [BW_or, h.bit i hi, h2.bit i hi])
theorem StF.or {f g : Nat → Bool} {S T : W4} (h : StF f S) (h2 : StF g T) : StF (fun c => f c || g c) (orW S T) := ⟨h.1.orr h2.1, h.2.1.orr h2.2.1, h.2.2.1.orr h2.2.2.1, h.2.2.2.orr h2.2.2.2⟩
theorem W4.Ok.zero : W4.zero.Ok := ⟨_, StF.zero⟩
theorem W4.Ok.with {s : W4} (h : s.Ok) (c : UInt8) : (withW s c).Ok := h.elim fun _ h => ⟨_, h.with c⟩
theorem W4.Ok.not {s : W4} (h : s.Ok) : (notW s).Ok := h.elim fun _ h => ⟨_, h.not⟩
theorem W4.Ok.or {s t : W4} (h : s.Ok) (h2 : t.Ok) : (orW s t).Ok := h.elim fun _ h => h2.elim fun _ h2 => ⟨_, h.or h2⟩
theorem rangeN_ok : ∀ (n c : Nat) (s : W4), s.Ok → (rangeN withW c n s).Ok
  | 0, _, _, h => h
  | n + 1, c, _, h => rangeN_ok n (c + 1) _ (h.with _)
theorem rangeW_ok (lo hi : UInt8) : (rangeW withW lo hi).Ok := rangeN_ok _ _ _ W4.Ok.zero
theorem next_less {l : List UInt8} {x : UInt8} {r : List UInt8} (h : nextR l = .ok (x, r)) : r.length + 1 ≤ l.length := by
  unfold nextR at h
  split at h
  · cases h
  · split at h
    · split at h
      · cases h
      · split at h
        · cases h
        · cases h; simp
    · cases h; simp
theorem span_fine {n : Nat} {l : List UInt8} {s : W4} {r : List UInt8} (h : spanR withW n l = .ok (s, r)) : s.Ok ∧ r.length ≤ l.length := by
  unfold spanR at h
  split at h
  · cases h; exact ⟨W4.Ok.zero, Nat.le_refl _⟩
  · split at h
    · cases h
    · rename_i lo r1 h1
      have e1 := next_less h1
      split at h
      · split at h
        · cases h
        · rename_i hi r2 h2
          have e2 := next_less h2
          split at h
          · cases h
          · cases h
            refine ⟨rangeW_ok _ _, ?_⟩
            have : (r1.drop 1).length ≤ r1.length := by simp
            omega
      · cases h
        exact ⟨rangeW_ok _ _, by omega⟩
theorem setLoop_fine : ∀ (f n : Nat) (l : List UInt8) (s : W4) (s2 : W4) (r : List UInt8), s.Ok → setLoop withW orW n f l s = .ok (s2, r) → s2.Ok ∧ r.length ≤ l.length
  | 0, n, l, s, s2, r, _, h => by unfold setLoop at h; cases h
  | f + 1, n, l, s, s2, r, hs, h => by
    unfold setLoop at h
    split at h
    · cases h
    · split at h
      · cases h; exact ⟨hs, by simp⟩
      · split at h
        · cases h
        · rename_i t r2 h1
          have e1 := span_fine h1
          have e2 := setLoop_fine f n r2 _ s2 r (hs.or e1.1) h
          exact ⟨e2.1, Nat.le_trans e2.2 e1.2⟩
theorem Fine.leaf {op : Nat} {s : W4} (hop : op ≤ 8) (hs : op = 1 → s.Ok) : RT.Fine (.mk op s []) := by
  unfold RT.Fine
  exact ⟨hop, fun _ => rfl, hs, by unfold FineL; trivial⟩
theorem size_leaf (op : Nat) (s : W4) : sizeN (.mk op s []) = 1 := by simp [sizeN, sizesN]
theorem set_fine {l : List UInt8} {t : RT} {r : List UInt8} (h : setR withW notW orW l = .ok (t, r)) : t.Fine ∧ sizeN t = 1 ∧ r.length ≤ l.length := by
  unfold setR at h
  simp only at h
  split at h
  · cases h
  · rename_i s r1 h1
    have e1 := span_fine h1
    split at h
    · cases h
    · rename_i s2 r2 h2
      have e2 := setLoop_fine _ _ _ _ _ _ e1.1 h2
      cases h
      refine ⟨Fine.leaf (by omega) (fun _ => ?_), size_leaf _ _, ?_⟩
      · split
        · exact e2.1.not
        · exact e2.1
      · have : (if l.head? = some 94 then l.drop 1 else l).length ≤ l.length := by split <;> simp
        omega
/-- What a group's reader answers. -/
def GFine (G : List UInt8 → PR RT) : Prop := ∀ l t r, G l = .ok (t, r) → t.Fine ∧ sizeN t + 3 * r.length ≤ 3 * l.length + 2
theorem thing_fine {G : List UInt8 → PR RT} (hG : GFine G) {l : List UInt8} {t : RT} {r : List UInt8} (h : thingR withW notW orW G l = .ok (t, r)) : t.Fine ∧ sizeN t + 3 * r.length ≤ 3 * l.length := by
  unfold thingR at h
  split at h
  · cases h
  · rename_i c r1
    split at h
    · have := hG _ _ _ h
      exact ⟨this.1, by simp; omega⟩
    · split at h
      · have := set_fine h
        exact ⟨this.1, by simp; omega⟩
      · split at h
        · cases h; exact ⟨Fine.leaf (by omega) (fun _ => W4.Ok.zero.not), by rw [size_leaf]; simp; omega⟩
        · split at h
          · cases h; exact ⟨Fine.leaf (by omega) (fun h => by omega), by rw [size_leaf]; simp; omega⟩
          · split at h
            · cases h; exact ⟨Fine.leaf (by omega) (fun h => by omega), by rw [size_leaf]; simp; omega⟩
            · split at h
              · cases h
              · rename_i b r2 h2
                have := next_less h2
                cases h
                exact ⟨Fine.leaf (by omega) (fun _ => W4.Ok.zero.with _), by rw [size_leaf]; simp at this ⊢; omega⟩
theorem often_op (c : UInt8) : oftenR c = 4 ∨ oftenR c = 5 ∨ oftenR c = 6 := by
  unfold oftenR
  split
  · exact .inl rfl
  · split
    · exact .inr (.inl rfl)
    · exact .inr (.inr rfl)
theorem partLoop_fine {G : List UInt8 → PR RT} (hG : GFine G) : ∀ (f : Nat) (l : List UInt8) (ts ts2 : List RT) (r : List UInt8), (∀ t ∈ ts, t.Fine) → partLoop withW notW orW G f l ts = .ok (ts2, r) → (∀ t ∈ ts2, t.Fine) ∧ sizesN ts2 + 3 * r.length ≤ sizesN ts + 3 * l.length
  | 0, l, ts, ts2, r, _, h => by unfold partLoop at h; cases h
  | f + 1, l, ts, ts2, r, hts, h => by
    unfold partLoop at h
    split at h
    · cases h; exact ⟨hts, by simp⟩
    · rename_i c r1
      split at h
      · cases h; exact ⟨hts, Nat.le_refl _⟩
      · split at h
        · split at h
          · cases h
          · rename_i t ht
            have hm : t ∈ ts := List.mem_of_getLast? ht
            have hsp : ts = ts.dropLast ++ [t] := by
              have hne : ts ≠ [] := fun e => by subst e; cases ht
              have := List.dropLast_concat_getLast hne
              rw [List.getLast?_eq_some_getLast hne] at ht
              injection ht with e
              rw [e] at this
              exact this.symm
            have e2 := partLoop_fine hG f r1 _ ts2 r (fun u hu => by
              rcases List.mem_append.1 hu with hu | hu
              · exact hts u ((List.dropLast_sublist ts).subset hu)
              · rw [List.mem_singleton] at hu
                subst hu
                unfold RT.Fine
                have := often_op c
                exact ⟨by omega, fun h => by omega, fun h => by omega, FineL.of fun v hv => by rw [List.mem_singleton] at hv; subst hv; exact hts _ hm⟩) h
            refine ⟨e2.1, ?_⟩
            have e3 := e2.2
            rw [sizesN_append] at e3
            have e4 : sizesN ts = sizesN ts.dropLast + sizeN t := by
              conv => lhs; rw [hsp]
              rw [sizesN_append]; simp [sizesN]
            simp [sizesN, sizeN] at e3 ⊢
            omega
        · split at h
          · cases h
          · rename_i t r2 h1
            have e1 := thing_fine hG h1
            have e2 := partLoop_fine hG f r2 _ ts2 r (fun u hu => by
              rcases List.mem_append.1 hu with hu | hu
              · exact hts u hu
              · rw [List.mem_singleton] at hu; subst hu; exact e1.1) h
            refine ⟨e2.1, ?_⟩
            have e3 := e2.2
            rw [sizesN_append] at e3
            simp [sizesN] at e3
            have := e1.2
            omega
theorem gather_fine {op : Nat} (hop : op = 2 ∨ op = 3) : ∀ {ts : List RT}, (∀ t ∈ ts, t.Fine) → (gatherR op ts).Fine ∧ sizeN (gatherR op ts) ≤ sizesN ts + 1
  | [], _ => ⟨Fine.leaf (by omega) (fun h => by omega), by show sizeN (.mk 0 W4.zero []) ≤ _; rw [size_leaf]; omega⟩
  | [t], h => ⟨h t (by simp), by show sizeN t ≤ _; simp [sizesN]⟩
  | t :: u :: l, h => ⟨by
      show RT.Fine (.mk op W4.zero (t :: u :: l))
      unfold RT.Fine
      exact ⟨by omega, fun h => by omega, fun h => by omega, FineL.of h⟩, by
      show sizeN (.mk op W4.zero (t :: u :: l)) ≤ _
      rw [sizeN]; omega⟩
theorem part_fine {G : List UInt8 → PR RT} (hG : GFine G) {l : List UInt8} {t : RT} {r : List UInt8} (h : partR withW notW orW G l = .ok (t, r)) : t.Fine ∧ sizeN t + 3 * r.length ≤ 3 * l.length + 1 := by
  unfold partR at h
  split at h
  · cases h
  · rename_i ts r1 h1
    have e1 := partLoop_fine hG _ _ _ _ _ (fun t ht => by cases ht) h1
    have e2 := gather_fine (op := 2) (.inl rfl) e1.1
    cases h
    refine ⟨e2.1, ?_⟩
    have e3 := e1.2
    simp [sizesN] at e3
    omega
theorem patLoop_fine {G : List UInt8 → PR RT} (hG : GFine G) : ∀ (f : Nat) (l : List UInt8) (ts ts2 : List RT) (r : List UInt8), (∀ t ∈ ts, t.Fine) → patLoop withW notW orW G f l ts = .ok (ts2, r) → (∀ t ∈ ts2, t.Fine) ∧ sizesN ts2 + 3 * r.length ≤ sizesN ts + 3 * l.length
  | 0, l, ts, ts2, r, _, h => by unfold patLoop at h; cases h
  | f + 1, l, ts, ts2, r, hts, h => by
    unfold patLoop at h
    split at h
    · cases h; exact ⟨hts, by simp⟩
    · rename_i c r1
      split at h
      · split at h
        · cases h
        · rename_i t r2 h1
          have e1 := part_fine hG h1
          have e2 := patLoop_fine hG f r2 _ ts2 r (fun u hu => by
            rcases List.mem_append.1 hu with hu | hu
            · exact hts u hu
            · rw [List.mem_singleton] at hu; subst hu; exact e1.1) h
          refine ⟨e2.1, ?_⟩
          have e3 := e2.2
          rw [sizesN_append] at e3
          simp [sizesN] at e3
          have := e1.2
          simp
          omega
      · cases h; exact ⟨hts, Nat.le_refl _⟩
theorem pat_fine {G : List UInt8 → PR RT} (hG : GFine G) : GFine (patR withW notW orW G) := by
  intro l t r h
  unfold patR at h
  split at h
  · cases h
  · rename_i t1 r1 h1
    have e1 := part_fine hG h1
    split at h
    · cases h
    · rename_i ts r2 h2
      have e2 := patLoop_fine hG _ _ _ _ _ (fun u hu => by rw [List.mem_singleton] at hu; subst hu; exact e1.1) h2
      have e3 := gather_fine (op := 3) (.inr rfl) e2.1
      cases h
      refine ⟨e3.1, ?_⟩
      have e4 := e2.2
      simp [sizesN] at e4
      have := e1.2
      omega
theorem grp_fine : ∀ d, GFine (grpR withW notW orW d)
  | 0 => fun l t r h => by unfold grpR at h; cases h
  | d + 1 => fun l t r h => by
    unfold grpR at h
    split at h
    · cases h
    · rename_i t1 r1 h1
      have e1 := pat_fine (grp_fine d) _ _ _ h1
      split at h
      · cases h
      · split at h
        · cases h
          refine ⟨e1.1, ?_⟩
          have := e1.2
          simp at this
          omega
        · cases h
theorem top_fine {l : List UInt8} {t : RT} {r : List UInt8} (h : topR withW notW orW l = .ok (t, r)) : t.Fine ∧ sizeN t ≤ 3 * l.length + 2 := by
  unfold topR at h
  split at h
  · cases h
  · rename_i t1 r1 h1
    have e1 := pat_fine (grp_fine 20) _ _ _ h1
    split at h
    · cases h
      refine ⟨e1.1, ?_⟩
      have := e1.2
      omega
    · cases h
end Go.Proofs.YtjjejcgpeefclaaDoor

namespace Go.Proofs.YtjjejcgpeefclaaDoor
open Go.RowKit

mutual
def RT.Shp : RT → Prop
  | .mk op _ ks => (op = 0 → ks = []) ∧ ((op = 4 ∨ op = 5 ∨ op = 6) → ∃ u, ks = [u]) ∧ ShpL ks
def ShpL : List RT → Prop
  | [] => True
  | t :: ts => t.Shp ∧ ShpL ts
end
theorem ShpL.mem : ∀ {ts : List RT}, ShpL ts → ∀ t ∈ ts, t.Shp
  | [], _, t, h => by cases h
  | u :: ts, hk, t, h => by
    unfold ShpL at hk
    rcases List.mem_cons.1 h with rfl | h
    · exact hk.1
    · exact hk.2.mem t h
theorem ShpL.of : ∀ {ts : List RT}, (∀ t ∈ ts, t.Shp) → ShpL ts
  | [], _ => by unfold ShpL; trivial
  | t :: ts, h => by
    unfold ShpL
    exact ⟨h t (by simp), ShpL.of fun u hu => h u (by simp [hu])⟩
theorem Shp.leaf {op : Nat} {s : W4} (hop : op < 4 ∨ 6 < op) : RT.Shp (.mk op s []) := by
  unfold RT.Shp
  exact ⟨fun _ => rfl, fun h => by omega, by unfold ShpL; trivial⟩
theorem set_shp {l : List UInt8} {t : RT} {r : List UInt8} (h : setR withW notW orW l = .ok (t, r)) : t.Shp := by
  unfold setR at h
  simp only at h
  split at h
  · cases h
  · split at h
    · cases h
    · cases h; exact Shp.leaf (by omega)
def GShp (G : List UInt8 → PR RT) : Prop := ∀ l t r, G l = .ok (t, r) → t.Shp
theorem thing_shp {G : List UInt8 → PR RT} (hG : GShp G) {l : List UInt8} {t : RT} {r : List UInt8} (h : thingR withW notW orW G l = .ok (t, r)) : t.Shp := by
  unfold thingR at h
  split at h
  · cases h
  · split at h
    · exact hG _ _ _ h
    · split at h
      · exact set_shp h
      · split at h
        · cases h; exact Shp.leaf (by omega)
        · split at h
          · cases h; exact Shp.leaf (by omega)
          · split at h
            · cases h; exact Shp.leaf (by omega)
            · split at h
              · cases h
              · cases h; exact Shp.leaf (by omega)
theorem partLoop_shp {G : List UInt8 → PR RT} (hG : GShp G) : ∀ (f : Nat) (l : List UInt8) (ts ts2 : List RT) (r : List UInt8), (∀ t ∈ ts, t.Shp) → partLoop withW notW orW G f l ts = .ok (ts2, r) → ∀ t ∈ ts2, t.Shp
  | 0, l, ts, ts2, r, _, h => by unfold partLoop at h; cases h
  | f + 1, l, ts, ts2, r, hts, h => by
    unfold partLoop at h
    split at h
    · cases h; exact hts
    · rename_i c r1
      split at h
      · cases h; exact hts
      · split at h
        · split at h
          · cases h
          · rename_i t ht
            have hm : t ∈ ts := List.mem_of_getLast? ht
            exact partLoop_shp hG f r1 _ ts2 r (fun u hu => by
              rcases List.mem_append.1 hu with hu | hu
              · exact hts u ((List.dropLast_sublist ts).subset hu)
              · rw [List.mem_singleton] at hu
                subst hu
                unfold RT.Shp
                have := often_op c
                exact ⟨fun h => by omega, fun _ => ⟨t, rfl⟩, ShpL.of fun v hv => by rw [List.mem_singleton] at hv; subst hv; exact hts _ hm⟩) h
        · split at h
          · cases h
          · rename_i t r2 h1
            have e1 := thing_shp hG h1
            exact partLoop_shp hG f r2 _ ts2 r (fun u hu => by
              rcases List.mem_append.1 hu with hu | hu
              · exact hts u hu
              · rw [List.mem_singleton] at hu; subst hu; exact e1) h
theorem gather_shp {op : Nat} (hop : op = 2 ∨ op = 3) : ∀ {ts : List RT}, (∀ t ∈ ts, t.Shp) → (gatherR op ts).Shp
  | [], _ => Shp.leaf (by omega)
  | [t], h => h t (by simp)
  | t :: u :: l, h => by
      show RT.Shp (.mk op W4.zero (t :: u :: l))
      unfold RT.Shp
      exact ⟨fun h => by omega, fun h => by omega, ShpL.of h⟩
theorem part_shp {G : List UInt8 → PR RT} (hG : GShp G) {l : List UInt8} {t : RT} {r : List UInt8} (h : partR withW notW orW G l = .ok (t, r)) : t.Shp := by
  unfold partR at h
  split at h
  · cases h
  · rename_i ts r1 h1
    cases h
    exact gather_shp (op := 2) (.inl rfl) (partLoop_shp hG _ _ _ _ _ (fun t ht => by cases ht) h1)
theorem patLoop_shp {G : List UInt8 → PR RT} (hG : GShp G) : ∀ (f : Nat) (l : List UInt8) (ts ts2 : List RT) (r : List UInt8), (∀ t ∈ ts, t.Shp) → patLoop withW notW orW G f l ts = .ok (ts2, r) → ∀ t ∈ ts2, t.Shp
  | 0, l, ts, ts2, r, _, h => by unfold patLoop at h; cases h
  | f + 1, l, ts, ts2, r, hts, h => by
    unfold patLoop at h
    split at h
    · cases h; exact hts
    · split at h
      · split at h
        · cases h
        · rename_i t r2 h1
          have e1 := part_shp hG h1
          exact patLoop_shp hG f r2 _ ts2 r (fun u hu => by
            rcases List.mem_append.1 hu with hu | hu
            · exact hts u hu
            · rw [List.mem_singleton] at hu; subst hu; exact e1) h
      · cases h; exact hts
theorem pat_shp {G : List UInt8 → PR RT} (hG : GShp G) : GShp (patR withW notW orW G) := by
  intro l t r h
  unfold patR at h
  split at h
  · cases h
  · rename_i t1 r1 h1
    have e1 := part_shp hG h1
    split at h
    · cases h
    · rename_i ts r2 h2
      cases h
      exact gather_shp (op := 3) (.inr rfl) (patLoop_shp hG _ _ _ _ _ (fun u hu => by rw [List.mem_singleton] at hu; subst hu; exact e1) h2)
theorem grp_shp : ∀ d, GShp (grpR withW notW orW d)
  | 0 => fun l t r h => by unfold grpR at h; cases h
  | d + 1 => fun l t r h => by
    unfold grpR at h
    split at h
    · cases h
    · rename_i t1 r1 h1
      have e1 := pat_shp (grp_shp d) _ _ _ h1
      split at h
      · cases h
      · split at h
        · cases h; exact e1
        · cases h
theorem top_shp {l : List UInt8} {t : RT} {r : List UInt8} (h : topR withW notW orW l = .ok (t, r)) : t.Shp := by
  unfold topR at h
  split at h
  · cases h
  · rename_i t1 r1 h1
    have e1 := pat_shp (grp_shp 20) _ _ _ h1
    split at h
    · cases h; exact e1
    · cases h
mutual
/-- A tree's nodes, as they stand. -/
def pre : RT → List RT
  | .mk op st ks => .mk op st ks :: preL ks
def preL : List RT → List RT
  | [] => []
  | t :: ts => pre t ++ preL ts
end
mutual
theorem pre_len : ∀ t : RT, (pre t).length = sizeN t
  | .mk op st ks => by unfold pre sizeN; rw [List.length_cons, preL_len ks]; omega
theorem preL_len : ∀ ts : List RT, (preL ts).length = sizesN ts
  | [] => by unfold preL sizesN; rfl
  | t :: ts => by unfold preL sizesN; rw [List.length_append, pre_len t, preL_len ts]
end
theorem preL_snoc : ∀ (ts : List RT) (t : RT), preL (ts ++ [t]) = preL ts ++ pre t
  | [], t => by show pre t ++ preL [] = _; rw [show preL [] = [] from by unfold preL; rfl]; rw [List.append_nil, List.nil_append]
  | u :: ts, t => by show pre u ++ preL (ts ++ [t]) = _; rw [preL_snoc ts t, preL, List.append_assoc]
/-- The numbers of a list of trees, the first one's being m. -/
def idx : Nat → List RT → List Nat
  | _, [] => []
  | m, t :: ts => m :: idx (m + sizeN t) ts
theorem idx_len : ∀ (m : Nat) (ts : List RT), (idx m ts).length = ts.length
  | _, [] => rfl
  | m, t :: ts => by show (idx _ ts).length + 1 = _; rw [idx_len _ ts]; rfl
theorem idx_snoc : ∀ (m : Nat) (ts : List RT) (t : RT), idx m (ts ++ [t]) = idx m ts ++ [m + sizesN ts]
  | m, [], t => by show m :: idx _ [] = _; simp [idx, sizesN]
  | m, u :: ts, t => by
    show m :: idx (m + sizeN u) (ts ++ [t]) = _
    rw [idx_snoc _ ts t]
    show _ = m :: (idx (m + sizeN u) ts ++ [_])
    rw [show m + sizesN (u :: ts) = m + sizeN u + sizesN ts from by rw [sizesN]; omega]
mutual
/-- Each node's kids' numbers, the tree's own being m. -/
def kix : Nat → RT → List (List Nat)
  | m, .mk _ _ ks => idx (m + 1) ks :: kixL (m + 1) ks
def kixL : Nat → List RT → List (List Nat)
  | _, [] => []
  | m, t :: ts => kix m t ++ kixL (m + sizeN t) ts
end
mutual
theorem kix_len : ∀ (m : Nat) (t : RT), (kix m t).length = sizeN t
  | m, .mk op st ks => by unfold kix sizeN; rw [List.length_cons, kixL_len _ ks]; omega
theorem kixL_len : ∀ (m : Nat) (ts : List RT), (kixL m ts).length = sizesN ts
  | _, [] => by unfold kixL sizesN; rfl
  | m, t :: ts => by unfold kixL sizesN; rw [List.length_append, kix_len m t, kixL_len _ ts]
end
theorem kixL_snoc : ∀ (m : Nat) (ts : List RT) (t : RT), kixL m (ts ++ [t]) = kixL m ts ++ kix (m + sizesN ts) t
  | m, [], t => by simp [kixL, sizesN]
  | m, u :: ts, t => by
    show kix m u ++ kixL (m + sizeN u) (ts ++ [t]) = _
    rw [kixL_snoc _ ts t, show kixL m (u :: ts) = kix m u ++ kixL (m + sizeN u) ts from by conv => lhs; unfold kixL, List.append_assoc, show m + sizesN (u :: ts) = m + sizeN u + sizesN ts from by rw [sizesN]; omega]
mutual
/-- A node's kids stand where its numbers say. -/
theorem kix_at {A : List RT} {m : Nat} : ∀ (t : RT) (a : Nat), (∀ i x, (pre t)[i]? = some x → A[a + i]? = some x) → ∀ (i : Nat) (x : RT) (l : List Nat), (pre t)[i]? = some x → (kix a t)[i]? = some l → l.length = x.kids.length ∧ ∀ (j : Nat) (u : RT), x.kids[j]? = some u → ∃ k, l[j]? = some k ∧ A[k]? = some u
  | .mk op st ks, a, hA, i, x, l, hx, hl => by
    cases i with
    | zero =>
      unfold pre at hx; unfold kix at hl
      simp only [List.getElem?_cons_zero, Option.some.injEq] at hx hl
      subst hx; subst hl
      refine ⟨idx_len _ _, fun j u hu => ?_⟩
      exact idx_at (m := m) ks (a + 1) (fun i x h => by
        have := hA (i + 1) x (by unfold pre; simpa using h)
        rw [show a + 1 + i = a + (i + 1) from by omega]; exact this) j u hu
    | succ i =>
      unfold pre at hx; unfold kix at hl
      rw [List.getElem?_cons_succ] at hx hl
      exact kixL_at (m := m) ks (a + 1) (fun i x h => by
        have := hA (i + 1) x (by unfold pre; simpa using h)
        rw [show a + 1 + i = a + (i + 1) from by omega]; exact this) i x l hx hl
theorem kixL_at {A : List RT} {m : Nat} : ∀ (ts : List RT) (a : Nat), (∀ i x, (preL ts)[i]? = some x → A[a + i]? = some x) → ∀ (i : Nat) (x : RT) (l : List Nat), (preL ts)[i]? = some x → (kixL a ts)[i]? = some l → l.length = x.kids.length ∧ ∀ (j : Nat) (u : RT), x.kids[j]? = some u → ∃ k, l[j]? = some k ∧ A[k]? = some u
  | [], a, hA, i, x, l, hx, hl => by unfold preL at hx; simp at hx
  | t :: ts, a, hA, i, x, l, hx, hl => by
    unfold preL at hx; unfold kixL at hl
    rcases Nat.lt_or_ge i (sizeN t) with h | h
    · rw [List.getElem?_append_left (by rw [pre_len]; exact h)] at hx
      rw [List.getElem?_append_left (by rw [kix_len]; exact h)] at hl
      exact kix_at (m := m) t a (fun i x h => hA i x (by
        unfold preL
        rw [List.getElem?_append_left (List.getElem?_eq_some_iff.1 h).1]; exact h)) i x l hx hl
    · rw [List.getElem?_append_right (by rw [pre_len]; exact h), pre_len] at hx
      rw [List.getElem?_append_right (by rw [kix_len]; exact h), kix_len] at hl
      exact kixL_at (m := m) ts (a + sizeN t) (fun i x h => by
        have := hA (sizeN t + i) x (by
          unfold preL
          rw [List.getElem?_append_right (by rw [pre_len]; omega), pre_len, Nat.add_sub_cancel_left]; exact h)
        rw [Nat.add_assoc]; exact this) (i - sizeN t) x l hx hl
theorem idx_at {A : List RT} {m : Nat} : ∀ (ts : List RT) (a : Nat), (∀ i x, (preL ts)[i]? = some x → A[a + i]? = some x) → ∀ (j : Nat) (u : RT), ts[j]? = some u → ∃ k, (idx a ts)[j]? = some k ∧ A[k]? = some u
  | [], a, hA, j, u, hu => by simp at hu
  | t :: ts, a, hA, 0, u, hu => by
    simp only [List.getElem?_cons_zero, Option.some.injEq] at hu
    subst hu
    refine ⟨a, rfl, ?_⟩
    have := hA 0 t (by
      unfold preL
      cases t
      unfold pre
      rfl)
    exact this
  | t :: ts, a, hA, j + 1, u, hu => by
    rw [List.getElem?_cons_succ] at hu
    obtain ⟨k, h1, h2⟩ := idx_at (m := m) ts (a + sizeN t) (fun i x h => by
        have := hA (sizeN t + i) x (by
          unfold preL
          rw [List.getElem?_append_right (by rw [pre_len]; omega), pre_len, Nat.add_sub_cancel_left]; exact h)
        rw [Nat.add_assoc]; exact this) j u hu
    exact ⟨k, h1, h2⟩
end
mutual
/-- All nodes of a tree that is as it should be are so. -/
theorem pre_all {P : RT → Prop} (hP : ∀ t, P t → ∀ u ∈ t.kids, P u) : ∀ (t : RT), P t → ∀ x ∈ pre t, P x
  | .mk op st ks, h, x, hx => by
    unfold pre at hx
    rcases List.mem_cons.1 hx with rfl | hx
    · exact h
    · exact preL_all hP ks (fun u hu => hP _ h u hu) x hx
theorem preL_all {P : RT → Prop} (hP : ∀ t, P t → ∀ u ∈ t.kids, P u) : ∀ (ts : List RT), (∀ u ∈ ts, P u) → ∀ x ∈ preL ts, P x
  | [], _, x, hx => by unfold preL at hx; cases hx
  | t :: ts, h, x, hx => by
    unfold preL at hx
    rcases List.mem_append.1 hx with hx | hx
    · exact pre_all hP t (h t (by simp)) x hx
    · exact preL_all hP ts (fun u hu => h u (by simp [hu])) x hx
end
end Go.Proofs.YtjjejcgpeefclaaDoor

namespace Go.Proofs.YtjjejcgpeefclaaDoor
open Go.RowKit

def NbPost (w : World) (L : Nat) (e : Ending) (w' : World) : Prop :=
  ∃ d : Bd, e = .returned (.pointer (some ⟨d.b, 0, none⟩)) ∧ Bl w' d 0 (fun _ _ => False) (fun _ _ => False) ∧ d.ok ∧ d.L = L ∧ (∀ k, k = d.p ∨ d.own k → w.heap.size ≤ k) ∧ Below w.heap.size w w'
set_option maxHeartbeats 4000000 in
theorem mnb_any (L : Nat) (hL : L ≤ 2000) (w : World) (hz : Dz w) :
    Calls Tryd.prog 32 #[.int .i64 (L : Int)] w (NbPost w L) := by
  obtain ⟨m, hm⟩ : ∃ m, (L + 63) / 64 = m := ⟨_, rfl⟩
  have hm1 : m ≤ 100 := by omega
  have hm2 : L ≤ 64 * m := by omega
  have hmi : ((L : Int) + 63) / 64 = (m : Int) := by omega
  have hLm : L * m ≤ 1000000000 := by
    have := Nat.mul_le_mul hL hm1
    omega
  have CT1 : Hid (∀ W, Calls Tryd.prog 36 #[.int .i64 256, .int .i64 (m : Int)] W fun e w' => ∃ g, e = .returned (.agg #[.int .i64 (m : Int), .slice (some ⟨g, 0, none⟩) (256 * m) (256 * m)]) ∧ W.heap.size ≤ g ∧ Tb w' g 256 m (fun _ _ => False) ∧ Below W.heap.size W w') := Lib.hid fun W => mtab_any 256 m (by omega) W
  have CT2 : Hid (∀ W, Calls Tryd.prog 36 #[.int .i64 (L : Int), .int .i64 (m : Int)] W fun e w' => ∃ g, e = .returned (.agg #[.int .i64 (m : Int), .slice (some ⟨g, 0, none⟩) (L * m) (L * m)]) ∧ W.heap.size ≤ g ∧ Tb w' g L m (fun _ _ => False) ∧ Below W.heap.size W w') := Lib.hid fun W => mtab_any L m hLm W
  have HZ := Lib.hid hz
  have HM := Lib.hid hm2
  have hLi : (L : Int) ≤ 2000 := by omega
  clear hz hm hLm hm2
  go_enter Tryd.func32, Tryd.ntmps32
  go_wp2_with fail
  refine (CT1.out _).mono ?_
  rintro e w2 ⟨g1, rfl, hg1, ht1, hb1⟩
  have HT1 := Lib.hid ht1
  have HB1 := Lib.hid hb1
  have hl1 := ht1.lt
  clear ht1 hb1
  go_wp2_with fail
  refine (CT2.out _).mono ?_
  rintro e w3 ⟨g2, rfl, hg2, ht2, hb2⟩
  have HT1b := Lib.hid (HT1.out.next hb2)
  have HT2 := Lib.hid ht2
  have hz1 := HB1.out.size
  have HB2 := Lib.hid (HB1.out.trans (hb2.mono hz1))
  have hl2 := ht2.lt
  clear ht2 hb2 HT1 HB1
  go_wp2_with fail
  refine (CT2.out _).mono ?_
  rintro e w4 ⟨g3, rfl, hg3, ht3, hb3⟩
  have HT1c := Lib.hid (HT1b.out.next hb3)
  have HT2c := Lib.hid (HT2.out.next hb3)
  have HT3 := Lib.hid ht3
  have hz2 := HB2.out.size
  have HB3 := Lib.hid (HB2.out.trans (hb3.mono hz2))
  have hl3 := ht3.lt
  clear ht3 hb3 HT1b HT2 HB2 CT1 CT2
  go_wp2_with fail
  go_ret
  obtain ⟨W6, hW6⟩ : ∃ W6, (w4.alloc (.cells #[.int .i64 (m : Int), .int .i64 (m : Int), .slice (some ⟨g1, 0, none⟩) (256 * m) (256 * m), .int .i64 (m : Int), .slice (some ⟨g2, 0, none⟩) (L * m) (L * m), .int .i64 (m : Int), .slice (some ⟨g3, 0, none⟩) (L * m) (L * m), .bool false, .bool false, .bool false, .bool false, .int .i64 0, .slice none 0 0, .int .i64 0, .slice none 0 0] 88)).alloc (.cells #[.pointer (some ⟨w4.heap.size, 0, none⟩), .int .i64 0] 86) = W6 := ⟨_, rfl⟩
  have hb6 : Below w4.heap.size w4 W6 := by rw [← hW6]; exact ((Below.refl _ _).alloc (Nat.le_refl _) _).alloc (by simp) _
  have hz3 := HB3.out.size
  refine ⟨⟨w4.heap.size + 1, w4.heap.size, g1, g2, g3, m, L⟩, rfl, ?_, ?_, rfl, ?_, ?_⟩
  · rw [hW6]
    refine ⟨?_, ?_, HT1c.out.next hb6, HT2c.out.next hb6, HT3.out.next hb6, (HZ.out.next HB3.out).next hb6⟩
    · rw [← hW6]
      have := mt_heap_new (w4.alloc (.cells #[.int .i64 (m : Int), .int .i64 (m : Int), .slice (some ⟨g1, 0, none⟩) (256 * m) (256 * m), .int .i64 (m : Int), .slice (some ⟨g2, 0, none⟩) (L * m) (L * m), .int .i64 (m : Int), .slice (some ⟨g3, 0, none⟩) (L * m) (L * m), .bool false, .bool false, .bool false, .bool false, .int .i64 0, .slice none 0 0, .int .i64 0, .slice none 0 0] 88)) (.cells #[.pointer (some ⟨w4.heap.size, 0, none⟩), .int .i64 0] 86)
      rw [World.size_alloc] at this
      exact this
    · rw [← hW6]
      exact (Below.heap_alloc _ _ _ (by simp)).trans (mt_heap_new _ _)
  · constructor <;> (try show _ ≠ _) <;> (try simp only) <;> (first | omega | exact HM.out)
  · intro k hk
    rcases hk with rfl | rfl | rfl | rfl | rfl <;> ((try simp only); omega)
  · rw [hW6]; exact HB3.out.trans (hb6.mono hz3)
end Go.Proofs.YtjjejcgpeefclaaDoor
