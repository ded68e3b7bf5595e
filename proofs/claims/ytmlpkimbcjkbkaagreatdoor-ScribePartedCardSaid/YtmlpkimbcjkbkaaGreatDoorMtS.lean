/-
  MATHEMATICS of layer 10's search: the leaves whose rest is there; where a match begins, and where the longest one ends.
-/
import Derived.Test.YtmlpkimbcjkbkaaGreatDoorMtC1
import Derived.Test.YtmlpkimbcjkbkaaGreatDoorMtC3
import Derived.Test.YtmlpkimbcjkbkaaGreatDoorMtP3
namespace Go.Proofs.YtmlpkimbcjkbkaaGreatDoor
open Go.RowKit

theorem Wd.orr {f g : Nat → Bool} {v : Nat} {x y : Int} (h : Wd f v x) (h2 : Wd g v y) : Wd (fun c => f c || g c) v (orU x y) :=
  Wd.mk2 (orU_nat x y) (fun i hi => by rw [BW_or, h.bit i hi, h2.bit i hi])
theorem StF.or {f g : Nat → Bool} {S T : W4} (h : StF f S) (h2 : StF g T) : StF (fun c => f c || g c) (orW S T) := ⟨h.1.orr h2.1, h.2.1.orr h2.2.1, h.2.2.1.orr h2.2.2.1, h.2.2.2.orr h2.2.2.2⟩
theorem W4.Ok.zero : W4.zero.Ok := ⟨_, StF.zero⟩
theorem W4.Ok.with {s : W4} (h : s.Ok) (c : UInt8) : (withW s c).Ok := h.elim fun _ h => ⟨_, h.with c⟩
theorem W4.Ok.not {s : W4} (h : s.Ok) : (notW s).Ok := h.elim fun _ h => ⟨_, h.not⟩
theorem W4.Ok.or {s t : W4} (h : s.Ok) (h2 : t.Ok) : (orW s t).Ok := h.elim fun _ h => h2.elim fun _ h2 => ⟨_, h.or h2⟩
theorem rangeN_ok : ∀ (n c : Nat) (s : W4), s.Ok → (rangeN withW c n s).Ok
  | 0, _, _, h => h
  | n + 1, c, _, h => rangeN_ok n (c + 1) _ (h.with _)
theorem rangeW_ok (lo hi : UInt8) : (rangeW withW lo hi).Ok := rangeN_ok _ _ _ W4.Ok.zero
theorem next_less {l : List UInt8} {x : UInt8} {r : List UInt8} (h : nextR l = .ok (x, r)) : r.length + 1 ≤ l.length := by
  unfold nextR at h
  split at h
  · cases h
  · split at h
    · split at h
      · cases h
      · split at h
        · cases h
        · cases h; simp
    · cases h; simp
theorem span_fine {n : Nat} {l : List UInt8} {s : W4} {r : List UInt8} (h : spanR withW n l = .ok (s, r)) : s.Ok ∧ r.length ≤ l.length := by
  unfold spanR at h
  split at h
  · cases h; exact ⟨W4.Ok.zero, Nat.le_refl _⟩
  · split at h
    · cases h
    · rename_i lo r1 h1
      have e1 := next_less h1
      split at h
      · split at h
        · cases h
        · rename_i hi r2 h2
          have e2 := next_less h2
          split at h
          · cases h
          · cases h
            refine ⟨rangeW_ok _ _, ?_⟩
            have : (r1.drop 1).length ≤ r1.length := by simp
            omega
      · cases h
        exact ⟨rangeW_ok _ _, by omega⟩
theorem setLoop_fine : ∀ (f n : Nat) (l : List UInt8) (s : W4) (s2 : W4) (r : List UInt8), s.Ok → setLoop withW orW n f l s = .ok (s2, r) → s2.Ok ∧ r.length ≤ l.length
  | 0, n, l, s, s2, r, _, h => by unfold setLoop at h; cases h
  | f + 1, n, l, s, s2, r, hs, h => by
    unfold setLoop at h
    split at h
    · cases h
    · split at h
      · cases h; exact ⟨hs, by simp⟩
      · split at h
        · cases h
        · rename_i t r2 h1
          have e1 := span_fine h1
          have e2 := setLoop_fine f n r2 _ s2 r (hs.or e1.1) h
          exact ⟨e2.1, Nat.le_trans e2.2 e1.2⟩
theorem Fine.leaf {op : Nat} {s : W4} (hop : op ≤ 8) (hs : op = 1 → s.Ok) : RT.Fine (.mk op s []) := by
  unfold RT.Fine
  exact ⟨hop, fun _ => rfl, hs, by unfold FineL; trivial⟩
theorem size_leaf (op : Nat) (s : W4) : sizeN (.mk op s []) = 1 := by simp [sizeN, sizesN]
theorem set_fine {l : List UInt8} {t : RT} {r : List UInt8} (h : setR withW notW orW l = .ok (t, r)) : t.Fine ∧ sizeN t = 1 ∧ r.length ≤ l.length := by
  unfold setR at h
  simp only at h
  split at h
  · cases h
  · rename_i s r1 h1
    have e1 := span_fine h1
    split at h
    · cases h
    · rename_i s2 r2 h2
      have e2 := setLoop_fine _ _ _ _ _ _ e1.1 h2
      cases h
      refine ⟨Fine.leaf (by omega) (fun _ => ?_), size_leaf _ _, ?_⟩
      · split
        · exact e2.1.not
        · exact e2.1
      · have : (if l.head? = some 94 then l.drop 1 else l).length ≤ l.length := by split <;> simp
        omega
/-- What a group's reader answers. -/
def GFine (G : List UInt8 → PR RT) : Prop := ∀ l t r, G l = .ok (t, r) → t.Fine ∧ sizeN t + 3 * r.length ≤ 3 * l.length + 2
theorem thing_fine {G : List UInt8 → PR RT} (hG : GFine G) {l : List UInt8} {t : RT} {r : List UInt8} (h : thingR withW notW orW G l = .ok (t, r)) : t.Fine ∧ sizeN t + 3 * r.length ≤ 3 * l.length := by
  unfold thingR at h
  split at h
  · cases h
  · rename_i c r1
    split at h
    · have := hG _ _ _ h
      exact ⟨this.1, by simp; omega⟩
    · split at h
      · have := set_fine h
        exact ⟨this.1, by simp; omega⟩
      · split at h
        · cases h; exact ⟨Fine.leaf (by omega) (fun _ => W4.Ok.zero.not), by rw [size_leaf]; simp; omega⟩
        · split at h
          · cases h; exact ⟨Fine.leaf (by omega) (fun h => by omega), by rw [size_leaf]; simp; omega⟩
          · split at h
            · cases h; exact ⟨Fine.leaf (by omega) (fun h => by omega), by rw [size_leaf]; simp; omega⟩
            · split at h
              · cases h
              · rename_i b r2 h2
                have := next_less h2
                cases h
                exact ⟨Fine.leaf (by omega) (fun _ => W4.Ok.zero.with _), by rw [size_leaf]; simp at this ⊢; omega⟩
theorem often_op (c : UInt8) : oftenR c = 4 ∨ oftenR c = 5 ∨ oftenR c = 6 := by
  unfold oftenR
  split
  · exact .inl rfl
  · split
    · exact .inr (.inl rfl)
    · exact .inr (.inr rfl)
theorem partLoop_fine {G : List UInt8 → PR RT} (hG : GFine G) : ∀ (f : Nat) (l : List UInt8) (ts ts2 : List RT) (r : List UInt8), (∀ t ∈ ts, t.Fine) → partLoop withW notW orW G f l ts = .ok (ts2, r) → (∀ t ∈ ts2, t.Fine) ∧ sizesN ts2 + 3 * r.length ≤ sizesN ts + 3 * l.length
  | 0, l, ts, ts2, r, _, h => by unfold partLoop at h; cases h
  | f + 1, l, ts, ts2, r, hts, h => by
    unfold partLoop at h
    split at h
    · cases h; exact ⟨hts, by simp⟩
    · rename_i c r1
      split at h
      · cases h; exact ⟨hts, Nat.le_refl _⟩
      · split at h
        · split at h
          · cases h
          · rename_i t ht
            have hm : t ∈ ts := List.mem_of_getLast? ht
            have hsp : ts = ts.dropLast ++ [t] := by
              have hne : ts ≠ [] := fun e => by subst e; cases ht
              have := List.dropLast_concat_getLast hne
              rw [List.getLast?_eq_some_getLast hne] at ht
              injection ht with e
              rw [e] at this
              exact this.symm
            have e2 := partLoop_fine hG f r1 _ ts2 r (fun u hu => by
              rcases List.mem_append.1 hu with hu | hu
              · exact hts u ((List.dropLast_sublist ts).subset hu)
              · rw [List.mem_singleton] at hu
                subst hu
                unfold RT.Fine
                have := often_op c
                exact ⟨by omega, fun h => by omega, fun h => by omega, FineL.of fun v hv => by rw [List.mem_singleton] at hv; subst hv; exact hts _ hm⟩) h
            refine ⟨e2.1, ?_⟩
            have e3 := e2.2
            rw [sizesN_append] at e3
            have e4 : sizesN ts = sizesN ts.dropLast + sizeN t := by
              conv => lhs; rw [hsp]
              rw [sizesN_append]; simp [sizesN]
            simp [sizesN, sizeN] at e3 ⊢
            omega
        · split at h
          · cases h
          · rename_i t r2 h1
            have e1 := thing_fine hG h1
            have e2 := partLoop_fine hG f r2 _ ts2 r (fun u hu => by
              rcases List.mem_append.1 hu with hu | hu
              · exact hts u hu
              · rw [List.mem_singleton] at hu; subst hu; exact e1.1) h
            refine ⟨e2.1, ?_⟩
            have e3 := e2.2
            rw [sizesN_append] at e3
            simp [sizesN] at e3
            have := e1.2
            omega
theorem gather_fine {op : Nat} (hop : op = 2 ∨ op = 3) : ∀ {ts : List RT}, (∀ t ∈ ts, t.Fine) → (gatherR op ts).Fine ∧ sizeN (gatherR op ts) ≤ sizesN ts + 1
  | [], _ => ⟨Fine.leaf (by omega) (fun h => by omega), by show sizeN (.mk 0 W4.zero []) ≤ _; rw [size_leaf]; omega⟩
  | [t], h => ⟨h t (by simp), by show sizeN t ≤ _; simp [sizesN]⟩
  | t :: u :: l, h => ⟨by
      show RT.Fine (.mk op W4.zero (t :: u :: l))
      unfold RT.Fine
      exact ⟨by omega, fun h => by omega, fun h => by omega, FineL.of h⟩, by
      show sizeN (.mk op W4.zero (t :: u :: l)) ≤ _
      rw [sizeN]; omega⟩
theorem part_fine {G : List UInt8 → PR RT} (hG : GFine G) {l : List UInt8} {t : RT} {r : List UInt8} (h : partR withW notW orW G l = .ok (t, r)) : t.Fine ∧ sizeN t + 3 * r.length ≤ 3 * l.length + 1 := by
  unfold partR at h
  split at h
  · cases h
  · rename_i ts r1 h1
    have e1 := partLoop_fine hG _ _ _ _ _ (fun t ht => by cases ht) h1
    have e2 := gather_fine (op := 2) (.inl rfl) e1.1
    cases h
    refine ⟨e2.1, ?_⟩
    have e3 := e1.2
    simp [sizesN] at e3
    omega
theorem patLoop_fine {G : List UInt8 → PR RT} (hG : GFine G) : ∀ (f : Nat) (l : List UInt8) (ts ts2 : List RT) (r : List UInt8), (∀ t ∈ ts, t.Fine) → patLoop withW notW orW G f l ts = .ok (ts2, r) → (∀ t ∈ ts2, t.Fine) ∧ sizesN ts2 + 3 * r.length ≤ sizesN ts + 3 * l.length
  | 0, l, ts, ts2, r, _, h => by unfold patLoop at h; cases h
  | f + 1, l, ts, ts2, r, hts, h => by
    unfold patLoop at h
    split at h
    · cases h; exact ⟨hts, by simp⟩
    · rename_i c r1
      split at h
      · split at h
        · cases h
        · rename_i t r2 h1
          have e1 := part_fine hG h1
          have e2 := patLoop_fine hG f r2 _ ts2 r (fun u hu => by
            rcases List.mem_append.1 hu with hu | hu
            · exact hts u hu
            · rw [List.mem_singleton] at hu; subst hu; exact e1.1) h
          refine ⟨e2.1, ?_⟩
          have e3 := e2.2
          rw [sizesN_append] at e3
          simp [sizesN] at e3
          have := e1.2
          simp
          omega
      · cases h; exact ⟨hts, Nat.le_refl _⟩
theorem pat_fine {G : List UInt8 → PR RT} (hG : GFine G) : GFine (patR withW notW orW G) := by
  intro l t r h
  unfold patR at h
  split at h
  · cases h
  · rename_i t1 r1 h1
    have e1 := part_fine hG h1
    split at h
    · cases h
    · rename_i ts r2 h2
      have e2 := patLoop_fine hG _ _ _ _ _ (fun u hu => by rw [List.mem_singleton] at hu; subst hu; exact e1.1) h2
      have e3 := gather_fine (op := 3) (.inr rfl) e2.1
      cases h
      refine ⟨e3.1, ?_⟩
      have e4 := e2.2
      simp [sizesN] at e4
      have := e1.2
      omega
theorem grp_fine : ∀ d, GFine (grpR withW notW orW d)
  | 0 => fun l t r h => by unfold grpR at h; cases h
  | d + 1 => fun l t r h => by
    unfold grpR at h
    split at h
    · cases h
    · rename_i t1 r1 h1
      have e1 := pat_fine (grp_fine d) _ _ _ h1
      split at h
      · cases h
      · split at h
        · cases h
          refine ⟨e1.1, ?_⟩
          have := e1.2
          simp at this
          omega
        · cases h
theorem top_fine {l : List UInt8} {t : RT} {r : List UInt8} (h : topR withW notW orW l = .ok (t, r)) : t.Fine ∧ sizeN t ≤ 3 * l.length + 2 := by
  unfold topR at h
  split at h
  · cases h
  · rename_i t1 r1 h1
    have e1 := pat_fine (grp_fine 20) _ _ _ h1
    split at h
    · cases h
      refine ⟨e1.1, ?_⟩
      have := e1.2
      omega
    · cases h
end Go.Proofs.YtmlpkimbcjkbkaaGreatDoor

namespace Go.Proofs.YtmlpkimbcjkbkaaGreatDoor
open Go.RowKit

/-- What Of answers. -/
def OfPost (s : ByteArray) (w : World) (e : Ending) (w' : World) : Prop :=
  Below w.heap.size w w' ∧ ((∃ t r d, topR withW notW orW s.data.toList = .ok (t, r) ∧ e = .returned (.tuple #[.pointer (some ⟨d.p, 0, none⟩), .int .i64 0, .int .i64 0]) ∧ Pg w' d t) ∨
    (∃ n k, topR withW notW orW s.data.toList = .error (n, k) ∧ (k = 9 ∨ k = 14) ∧ n ≤ s.size ∧ e = .returned (.tuple #[.pointer none, .int .i64 ((s.size - n : Nat) : Int), .int .i64 (k : Int)])))
set_option maxHeartbeats 4000000 in
set_option maxRecDepth 100000 in
theorem mof_any (s : ByteArray) (hs : s.size ≤ 300) (w : World) (hdz : Dz w) : Calls Tryz.prog 6 #[.string s] w (OfPost s w) := by
  have CP := Lib.hid (rparse_any s w hs)
  have HDZ := Lib.hid hdz
  clear hdz
  go_enter Tryz.func6, Tryz.ntmps6
  go_wp2_with fail
  refine CP.out.mono ?_
  rintro e w2 ⟨hb2, (⟨t, r, nd, ht, rfl, htr⟩ | ⟨n, k, ht, hk, hn, rfl⟩)⟩
  · obtain ⟨nop, nst, kp, kn, kc⟩ := nd
    have hz2 := hb2.size
    have hfine := top_fine ht
    have hlen : s.data.toList.length = s.size := by simp
    have HTT := Lib.hid ht
    have HB2 := Lib.hid hb2
    have HDZ2 := Lib.hid (HDZ.out.next hb2)
    obtain ⟨W3, hW3⟩ : ∃ W3, w2.alloc (.cells #[.int .i64 nop, .int .u64 nst.a, .int .u64 nst.b, .int .u64 nst.c, .int .u64 nst.d, .slice kp kn kc] 45) = W3 := ⟨_, rfl⟩
    have hb3 : Below w2.heap.size w2 W3 := by rw [← hW3]; exact (Below.refl _ _).alloc (Nat.le_refl _) _
    have HC := Lib.hid (mcomp_any t hfine.1 (by omega) (htr.kept (B' := fun g => w.heap.size ≤ g) (fun g _ hl => hb3.block g hl) (fun g hg _ => hg)) (HDZ2.out.next hb3))
    have HX3 : Hid (W3.heap[w2.heap.size]? = some (.cells #[.int .i64 nop, .int .u64 nst.a, .int .u64 nst.b, .int .u64 nst.c, .int .u64 nst.d, .slice kp kn kc] 45 (0, 0))) := Lib.hid (by rw [← hW3]; exact mt_heap_new _ _)
    have x0 : W3.cell? ⟨w2.heap.size, 0, none⟩ = some (.int .i64 nop) := rg_cell HX3.out
    have x1 : W3.cell? ⟨w2.heap.size, 1, none⟩ = some (.int .u64 nst.a) := rg_cell HX3.out
    have x2 : W3.cell? ⟨w2.heap.size, 2, none⟩ = some (.int .u64 nst.b) := rg_cell HX3.out
    have x3 : W3.cell? ⟨w2.heap.size, 3, none⟩ = some (.int .u64 nst.c) := rg_cell HX3.out
    have x4 : W3.cell? ⟨w2.heap.size, 4, none⟩ = some (.int .u64 nst.d) := rg_cell HX3.out
    have x5 : W3.cell? ⟨w2.heap.size, 5, none⟩ = some (.slice kp kn kc) := rg_cell HX3.out
    have HB3 := Lib.hid (HB2.out.trans (hb3.mono hz2))
    have HW3 := Lib.hid hW3
    clear ht hb2 hb3 hW3 htr hfine hlen HB2 HDZ2 HX3 CP
    unfold Nd.val at HC ⊢
    simp only at HC ⊢
    go_upto_region 2 with fail
    rw [HW3.out]
    clear HW3
    go_wp2_with fail
    refine HC.out.mono ?_
    rintro e w4 ⟨d, rfl, hpg, hb4⟩
    have HPG := Lib.hid hpg
    have HB4 := Lib.hid (HB3.out.trans (hb4.mono HB3.out.size))
    clear hpg hb4
    go_wp2_with fail
    refine bodyPost_ret (v := .tuple #[.pointer (some ⟨d.p, 0, none⟩), .int .i64 0, .int .i64 0]) ?_ rfl ⟨HB4.out, .inl ⟨t, r, d, HTT.out, rfl, HPG.out⟩⟩
    simp [results, Tryz.results6, go_sem]
  · have HB2 := Lib.hid hb2
    have HE := Lib.hid (And.intro ht (And.intro hk hn))
    have hkn : ((k : Int) != 0) = true := by rcases hk with rfl | rfl <;> rfl
    clear hb2 ht hk hn CP HDZ
    unfold Nd.val
    go_wp2_with fail
    refine bodyPost_ret (v := .tuple #[.pointer none, .int .i64 ((s.size - n : Nat) : Int), .int .i64 (k : Int)]) ?_ rfl ⟨HB2.out.alloc HB2.out.size _, .inr ⟨n, k, HE.out.1, HE.out.2.1, HE.out.2.2, rfl⟩⟩
    simp [results, Tryz.results6, go_sem]
end Go.Proofs.YtmlpkimbcjkbkaaGreatDoor

namespace Go.Proofs.YtmlpkimbcjkbkaaGreatDoor

section
variable (tk B : Nat → Nat → Prop) (L : Nat → Nat → Prop) (N : Nat)
/-- Leaf x takes the byte at place i, and its rest is there. -/
inductive RowP : Nat → Nat → Prop where
  | last {i x : Nat} (h : i < N) (ht : tk x i) (hl : L (spotN (i + 1) N) x) : RowP i x
  | more {i x y : Nat} (h : i < N) (ht : tk x i) (hb : B x y) (hr : RowP (i + 1) y) : RowP i x
end
section
variable {tk B : Nat → Nat → Prop} {L : Nat → Nat → Prop} {N : Nat}
theorem RowP.lt {i x : Nat} (h : RowP tk B L N i x) : i < N := by cases h <;> assumption
theorem rowP_iff {i x : Nat} (hi : i < N) : RowP tk B L N i x ↔ tk x i ∧ (L (spotN (i + 1) N) x ∨ ∃ y, RowP tk B L N (i + 1) y ∧ B x y) := by
  constructor
  · intro h
    cases h with
    | last h ht hl => exact ⟨ht, .inl hl⟩
    | more h ht hb hr => exact ⟨ht, .inr ⟨_, hr, hb⟩⟩
  · rintro ⟨ht, hl | ⟨y, hr, hb⟩⟩
    · exact .last hi ht hl
    · exact .more hi ht hb hr
theorem rowP_run {i x : Nat} : RowP tk B L N i x ↔ ∃ y j, Run tk B x i y j ∧ j ≤ N ∧ L (spotN j N) y := by
  constructor
  · intro h
    induction h with
    | last h ht hl => exact ⟨_, _, .one ht, by omega, hl⟩
    | more h ht hb hr ih =>
      obtain ⟨y, j, h1, h2, h3⟩ := ih
      exact ⟨y, j, .more ht hb h1, h2, h3⟩
  · rintro ⟨y, j, h1, h2, h3⟩
    induction h1 with
    | one h => exact .last (by omega) h h3
    | more h hb hr ih => exact .more (by have := hr.lt; omega) h hb (ih h2 h3)
/-- A run is cut at any of its places. -/
theorem Run.cut {x i y j : Nat} (h : Run tk B x i y j) : ∀ k, i ≤ k → k < j → ∃ z, Run tk B x i z (k + 1) ∧ (z = y ∧ k + 1 = j ∨ ∃ z2, B z z2 ∧ Run tk B z2 (k + 1) y j) := by
  induction h with
  | @one x i h =>
    intro k h1 h2
    obtain rfl : k = i := by omega
    exact ⟨x, .one h, .inl ⟨rfl, rfl⟩⟩
  | @more x i z y j h hb hr ih =>
    intro k h1 h2
    by_cases hk : k = i
    · subst hk
      exact ⟨x, .one h, .inr ⟨z, hb, hr⟩⟩
    · obtain ⟨z3, h3, h4⟩ := ih k (by omega) h2
      exact ⟨z3, .more h hb h3, h4⟩
theorem Run.snoc {x i y j z : Nat} (h : Run tk B x i y j) (hb : B y z) (ht : tk z j) : Run tk B x i z (j + 1) := h.join hb (.one ht)
theorem Run.unsnoc {x i y j : Nat} (h : Run tk B x i y j) : tk y (j - 1) ∧ (x = y ∧ j = i + 1 ∨ ∃ z, Run tk B x i z (j - 1) ∧ B z y ∧ i < j - 1) := by
  induction h with
  | one h => exact ⟨by simpa using h, .inl ⟨rfl, rfl⟩⟩
  | @more x i z y j h hb hr ih =>
    refine ⟨ih.1, .inr ?_⟩
    have hlt := hr.lt
    rcases ih.2 with ⟨rfl, rfl⟩ | ⟨z3, h3, h4, h5⟩
    · exact ⟨x, .one h, hb, by omega⟩
    · exact ⟨z3, .more h hb h3, h4, by omega⟩
end
/-- What of a text's byte at a place a tree's leaf takes. -/
def tkS (s : ByteArray) (t : RT) (x i : Nat) : Prop := ∃ h : i < s.size, Tks hasP t 0 x s[i].toNat
/-- A set has the byte at a place. -/
def gS (s : ByteArray) (st : W4) (i : Nat) : Prop := ∃ h : i < s.size, hasP st s[i].toNat
mutual
theorem tks_at (s : ByteArray) (i : Nat) (hi : i < s.size) : ∀ (t : RT) (b x : Nat), Tks (gS s) t b x i ↔ Tks hasP t b x s[i].toNat
  | .mk op st ks, b, x => by
    unfold Tks
    split
    · constructor
      · rintro ⟨h, _, h2⟩; exact ⟨h, h2⟩
      · rintro ⟨h, h2⟩; exact ⟨h, hi, h2⟩
    · split
      · exact Iff.rfl
      · exact tksL_at s i hi ks b x
theorem tksL_at (s : ByteArray) (i : Nat) (hi : i < s.size) : ∀ (ks : List RT) (b x : Nat), TksL (gS s) ks b x i ↔ TksL hasP ks b x s[i].toNat
  | [], b, x => by unfold TksL; exact Iff.rfl
  | t :: ts, b, x => by
    unfold TksL
    rw [tks_at s i hi t b x, tksL_at s i hi ts _ x]
end
mutual
theorem tks_in (s : ByteArray) (i : Nat) : ∀ (t : RT) (b x : Nat), Tks (gS s) t b x i → i < s.size
  | .mk op st ks, b, x, h => by
    unfold Tks at h
    split at h
    · exact h.2.1
    · split at h
      · exact h.elim
      · exact tksL_in s i ks b x h
theorem tksL_in (s : ByteArray) (i : Nat) : ∀ (ks : List RT) (b x : Nat), TksL (gS s) ks b x i → i < s.size
  | [], b, x, h => by unfold TksL at h; exact h.elim
  | t :: ts, b, x, h => by
    unfold TksL at h
    rcases h with ⟨_, h⟩ | ⟨_, h⟩
    · exact tks_in s i t b x h
    · exact tksL_in s i ts _ x h
end
theorem tkS_iff (s : ByteArray) (t : RT) (x i : Nat) : tkS s t x i ↔ Tks (gS s) t 0 x i := by
  constructor
  · rintro ⟨h, h2⟩; exact (tks_at s i h t 0 x).2 h2
  · intro h
    have hi := tks_in s i t 0 x h
    exact ⟨hi, (tks_at s i hi t 0 x).1 h⟩
/-- A tree is met by a text from a place to a place. -/
def Met (s : ByteArray) (t : RT) (i j : Nat) : Prop := j ≤ s.size ∧ Lead (gS s) s.size t i j
/-- The leaves of a text's place whose rest is there. -/
abbrev RowS (s : ByteArray) (t : RT) : Nat → Nat → Prop := RowP (tkS s t) (Bhd t 0) (Lst t 0) s.size
theorem met_iff {s : ByteArray} {t : RT} {i j : Nat} : Met s t i j ↔ j ≤ s.size ∧ ((i = j ∧ emp t (spotN i s.size) = true) ∨ ∃ x y, Fst t 0 (spotN i s.size) x ∧ Lst t 0 (spotN j s.size) y ∧ Run (tkS s t) (Bhd t 0) x i y j) := by
  unfold Met
  constructor
  · rintro ⟨h1, h2⟩
    refine ⟨h1, ?_⟩
    rcases (lead_iff (gS s) s.size t 0 i j h1).1 h2 with h | ⟨h, x, y, h3, h4, h5⟩
    · exact .inl h
    · exact .inr ⟨x, y, h3, h4, h5.mono (fun x i h => (tkS_iff s t x i).2 h) (fun _ _ h => h)⟩
  · rintro ⟨h1, h2⟩
    refine ⟨h1, (lead_iff (gS s) s.size t 0 i j h1).2 ?_⟩
    rcases h2 with h | ⟨x, y, h3, h4, h5⟩
    · exact .inl h
    · exact .inr ⟨h5.lt, x, y, h3, h4, h5.mono (fun x i h => (tkS_iff s t x i).1 h) (fun _ _ h => h)⟩
theorem Met.le {s : ByteArray} {t : RT} {i j : Nat} (h : Met s t i j) : i ≤ j := Lead.le _ _ t i j h.2
/-- A match begins at a place. -/
theorem begins_iff {s : ByteArray} {t : RT} {i : Nat} (hi : i ≤ s.size) : (∃ j, Met s t i j) ↔ (emp t (spotN i s.size) = true ∨ ∃ x, Fst t 0 (spotN i s.size) x ∧ RowS s t i x) := by
  constructor
  · rintro ⟨j, h⟩
    obtain ⟨h1, ⟨rfl, h2⟩ | ⟨x, y, h3, h4, h5⟩⟩ := met_iff.1 h
    · exact .inl h2
    · exact .inr ⟨x, h3, rowP_run.2 ⟨y, j, h5, h1, h4⟩⟩
  · rintro (h | ⟨x, h3, h⟩)
    · exact ⟨i, met_iff.2 ⟨hi, .inl ⟨rfl, h⟩⟩⟩
    · obtain ⟨y, j, h5, h1, h4⟩ := rowP_run.1 h
      exact ⟨j, met_iff.2 ⟨h1, .inr ⟨x, y, h3, h4, h5⟩⟩⟩
/-- The leaves that are held behind k bytes of a match that begins at i, and comes to an end. -/
def NowS (s : ByteArray) (t : RT) (i k x : Nat) : Prop := RowS s t k x ∧ ∃ x0, Fst t 0 (spotN i s.size) x0 ∧ Run (tkS s t) (Bhd t 0) x0 i x (k + 1)
theorem now_first {s : ByteArray} {t : RT} {i x : Nat} : NowS s t i i x ↔ Fst t 0 (spotN i s.size) x ∧ RowS s t i x := by
  constructor
  · rintro ⟨h, x0, h1, h2⟩
    obtain ⟨h3, ⟨rfl, _⟩ | ⟨z, _, _, h6⟩⟩ := h2.unsnoc
    · exact ⟨h1, h⟩
    · omega
  · rintro ⟨h1, h⟩
    refine ⟨h, x, h1, .one ?_⟩
    cases h <;> assumption
theorem now_next {s : ByteArray} {t : RT} {i k x : Nat} (hk : i ≤ k) : NowS s t i (k + 1) x ↔ RowS s t (k + 1) x ∧ ∃ y, NowS s t i k y ∧ Bhd t 0 y x := by
  constructor
  · rintro ⟨h, x0, h1, h2⟩
    refine ⟨h, ?_⟩
    obtain ⟨h3, ⟨rfl, h4⟩ | ⟨z, h4, h5, h6⟩⟩ := h2.unsnoc
    · omega
    · have e : k + 1 + 1 - 1 = k + 1 := by omega
      rw [e] at h4 h6
      have htz : tkS s t z k := by
        have := h4.unsnoc.1
        simpa using this
      exact ⟨z, ⟨.more (by have := h.lt; omega) htz h5 h, x0, h1, h4⟩, h5⟩
  · rintro ⟨h, y, ⟨_, x0, h1, h2⟩, h3⟩
    refine ⟨h, x0, h1, h2.snoc h3 ?_⟩
    cases h <;> assumption
/-- A match ends behind k + 1 bytes just if a leaf held there may be its last. -/
theorem now_end {s : ByteArray} {t : RT} {i k : Nat} (hk : i ≤ k) : (∃ x, NowS s t i k x ∧ Lst t 0 (spotN (k + 1) s.size) x) ↔ Met s t i (k + 1) := by
  constructor
  · rintro ⟨x, ⟨h, x0, h1, h2⟩, h3⟩
    exact met_iff.2 ⟨by have := h.lt; omega, .inr ⟨x0, x, h1, h3, h2⟩⟩
  · intro h
    obtain ⟨h1, ⟨h2, _⟩ | ⟨x, y, h3, h4, h5⟩⟩ := met_iff.1 h
    · omega
    · refine ⟨y, ⟨.last (by omega) ?_ h4, x, h3, h5⟩, h4⟩
      have := h5.unsnoc.1
      simpa using this
theorem now_none {s : ByteArray} {t : RT} {i k : Nat} (hk : i ≤ k) (h : ∀ x, ¬ NowS s t i k x) : ∀ j, k < j → ¬ Met s t i j := by
  intro j hj hm
  obtain ⟨h1, ⟨h2, _⟩ | ⟨x, y, h3, h4, h5⟩⟩ := met_iff.1 hm
  · omega
  · obtain ⟨z, h6, h7⟩ := h5.cut k hk hj
    refine h z ⟨?_, x, h3, h6⟩
    have htz : tkS s t z k := by
      have := h6.unsnoc.1
      simpa using this
    rcases h7 with ⟨rfl, rfl⟩ | ⟨z2, hb, hr⟩
    · exact .last (by omega) htz h4
    · exact .more (by have := hr.lt; omega) htz hb (rowP_run.2 ⟨y, j, hr, h1, h4⟩)
end Go.Proofs.YtmlpkimbcjkbkaaGreatDoor
