/-
  MATHEMATICS of layer 10's document: rising lists of places, and two of them as one.
-/
import Derived.Test.YtjjejcgpeefclaaDoorMtS4
namespace Go.Proofs.YtjjejcgpeefclaaDoor
open Go.RowKit

/-- The leftmost match from a place on, and of these the longest one; or that there is none. -/
def FndIs (s : ByteArray) (t : RT) (a : Nat) : Option (Nat × Nat) → Prop
  | none => ∀ i, a ≤ i → ∀ j, ¬ Met s t i j
  | some (i, j) => a ≤ i ∧ Met s t i j ∧ (∀ j', Met s t i j' → j' ≤ j) ∧ ∀ i', a ≤ i' → i' < i → ∀ j', ¬ Met s t i' j'
def fndV : Option (Nat × Nat) → Value
  | none => .tuple #[.int .i64 0, .int .i64 0, .bool false]
  | some (i, j) => .tuple #[.int .i64 (i : Int), .int .i64 (j : Int), .bool true]
theorem Met.le2 {s : ByteArray} {t : RT} {i j : Nat} (h : Met s t i j) : i ≤ j ∧ j ≤ s.size := ⟨h.le, h.1⟩
/-- What find answers. -/
def FindPost (s : ByteArray) (t : RT) (a : Nat) (w : World) (e : Ending) (w' : World) : Prop := ∃ r, e = .returned (fndV r) ∧ FndIs s t a r ∧ Below w.heap.size w w'
set_option maxHeartbeats 4000000 in
set_option maxRecDepth 100000 in
theorem mfind_any (s : ByteArray) (hs : s.size ≤ 1000000) {w : World} {d : Pd} {t : RT} {fr g : Nat} (h : Sn w d t s fr g) (a : Nat) (hfa : fr ≤ a) (ha : a ≤ s.size + 1) :
    Calls Tryd.prog 24 #[seV d fr s.size g, .int .i64 (a : Int)] w (FindPost s t a w) := by
  have CB := Lib.hid fun (Z : World) (hZ : Below w.heap.size w Z) (i : Nat) (hi : fr ≤ i ∧ i ≤ s.size) => mbeg_any s hs (h.next hZ) i hi.1 hi.2
  have CE := Lib.hid fun (Z : World) (hZ : Below w.heap.size w Z) (i : Nat) (hi : fr ≤ i ∧ i ≤ s.size) => mend_any s hs (h.next hZ) i hi.1 hi.2
  unfold seV at CB CE ⊢
  generalize (s.size - fr + 1) * d.m = R at *
  obtain ⟨W1, hW1⟩ : ∃ W1, w.alloc (.cells #[.pointer (some ⟨d.p, 0, none⟩), .int .i64 (fr : Int), .int .i64 (s.size : Int), .int .i64 (d.m : Int), .slice (some ⟨g, 0, none⟩) R R] 65) = W1 := ⟨_, rfl⟩
  have hb1 : Below w.heap.size w W1 := by rw [← hW1]; exact (Below.refl _ _).alloc (Nat.le_refl _) _
  have hz1 : W1.heap.size = w.heap.size + 1 := by rw [← hW1]; simp
  have hx1 : W1.heap[w.heap.size]? = some (.cells #[.pointer (some ⟨d.p, 0, none⟩), .int .i64 (fr : Int), .int .i64 (s.size : Int), .int .i64 (d.m : Int), .slice (some ⟨g, 0, none⟩) R R] 65 (0, 0)) := by rw [← hW1]; exact mt_heap_new _ _
  have HSK := Lib.hid fun (Z : World) (hZ : Below W1.heap.size W1 Z) => se_cells (b := w.heap.size) ((hZ.block _ (by omega)).trans hx1)
  have HB1 := Lib.hid hb1
  have HW1 := Lib.hid hW1
  have hsi : (s.size : Int) ≤ 1000000 := by omega
  have hai : (a : Int) ≤ 1000001 := by omega
  clear h hx1 hb1 hW1
  go_enter Tryd.func24, Tryd.ntmps24
  go_upto_region 1 with fail
  rw [HW1.out]
  clear HW1
  go_wp2_with fail
  go_loopw [1] (fun iv wr => ∃ i : Nat, iv = .int .i64 (i : Int) ∧ a ≤ i ∧ i ≤ s.size + 1 ∧ Hid (Below W1.heap.size W1 wr ∧ ∀ i', a ≤ i' → i' < i → ∀ j, ¬ Met s t i' j)) (fun iv _ => s.size + 2 - (intOf iv).toNat)
  case atStart => exact ⟨a, rfl, Nat.le_refl _, ha, Lib.hid ⟨Below.refl _ _, fun i' h1 h2 => by omega⟩⟩
  case round =>
    obtain ⟨i, rfl, hai2, hiN, HI⟩ := hrel
    have hBw : Below w.heap.size w wr := HB1.out.trans (HI.out.1.mono (by omega))
    obtain ⟨s0, s1, s2, s3, s4⟩ := HSK.out wr HI.out.1
    by_cases hi : i ≤ s.size
    · have hii : (i : Int) ≤ (s.size : Int) := by omega
      have CBi := Lib.hid (CB.out wr hBw i ⟨by omega, hi⟩)
      clear hBw
      go_wp2_with fail
      refine CBi.out.mono ?_
      rintro e w2 ⟨b, rfl, hb, hb2⟩
      have HBB := Lib.hid hb
      have HI2 : Hid (Below W1.heap.size W1 w2 ∧ ∀ i', a ≤ i' → i' < i → ∀ j, ¬ Met s t i' j) := Lib.hid ⟨HI.out.1.trans (hb2.mono HI.out.1.size), HI.out.2⟩
      clear hb hb2 HI CBi s0 s1 s2 s3 s4
      obtain ⟨s0, s1, s2, s3, s4⟩ := HSK.out w2 HI2.out.1
      have hBw2 : Below w.heap.size w w2 := HB1.out.trans (HI2.out.1.mono (by omega))
      cases b with
      | true =>
        have CEi := Lib.hid (CE.out w2 hBw2 i ⟨by omega, hi⟩)
        have HBW2 := Lib.hid hBw2
        clear hBw2
        go_wp2_with fail
        refine CEi.out.mono ?_
        rintro e w3 ⟨n, rfl, h1, h2, h3, hb3⟩
        have HFIN : Hid (FindPost s t a w (.returned (fndV (some (i, n)))) w3) := Lib.hid ⟨some (i, n), rfl, ⟨hai2, by
          rcases h2 with h2 | h2
          · obtain ⟨j, hj⟩ := HBB.out.1 (by trivial)
            have := h1 j hj
            have := hj.le
            obtain rfl : j = n := by omega
            exact hj
          · exact h2, h1, HI2.out.2⟩, HBW2.out.trans (hb3.mono HBW2.out.size)⟩
        clear h1 h2 hb3 HBB HI2 CEi s0 s1 s2 s3 s4
        go_wp2_with fail
        refine bodyPost_ret (v := fndV (some (i, n))) ?_ rfl HFIN.out
        simp [results, Tryd.results24, go_sem, fndV]
      | false =>
        have HN : Hid (Below W1.heap.size W1 w2 ∧ ∀ i', a ≤ i' → i' < i + 1 → ∀ j, ¬ Met s t i' j) := Lib.hid ⟨HI2.out.1, fun i' h1 h2 j hj => by
          by_cases he : i' < i
          · exact HI2.out.2 i' h1 he j hj
          · obtain rfl : i' = i := by omega
            have := HBB.out.2 ⟨j, hj⟩
            cases this⟩
        clear HBB HI2 hBw2 s0 s1 s2 s3 s4
        go_wp2_with fail
        refine ⟨⟨i + 1, by simp, by omega, by omega, HN⟩, ?_⟩
        simp [intOf]; omega
    · have hii : ¬ (i : Int) ≤ (s.size : Int) := by omega
      have HFIN : Hid (FindPost s t a w (.returned (fndV none)) wr) := Lib.hid ⟨none, rfl, fun i' h1 j hj => by
        by_cases he : i' < i
        · exact HI.out.2 i' h1 he j hj
        · have := hj.le2; omega, hBw⟩
      clear HI hBw
      go_wp2_with fail
      refine bodyPost_ret (v := fndV none) ?_ rfl HFIN.out
      simp [results, Tryd.results24, go_sem, fndV]
/-- What Find answers from any number on. -/
def FdIs (s : ByteArray) (t : RT) (fr : Int) (r : Option (Nat × Nat)) : Prop := if 0 ≤ fr ∧ fr ≤ (s.size : Int) then FndIs s t fr.toNat r else r = none
def FdPost (s : ByteArray) (t : RT) (fr : Int) (w : World) (e : Ending) (w' : World) : Prop := ∃ r, e = .returned (fndV r) ∧ FdIs s t fr r ∧ Below w.heap.size w w'
set_option maxHeartbeats 4000000 in
theorem mFind_any (s : ByteArray) (hs : s.size ≤ 1000000) (fr : Int) (hfr : -9223372036854775808 ≤ fr ∧ fr ≤ 9223372036854775807) {w : World} {d : Pd} {t : RT} (h : Pg w d t) :
    Calls Tryd.prog 15 #[.pointer (some ⟨d.p, 0, none⟩), .string s, .int .i64 fr] w (FdPost s t fr w) := by
  by_cases h0 : fr < 0
  · have HF : Hid (FdPost s t fr w (.returned (fndV none)) w) := Lib.hid ⟨none, rfl, by unfold FdIs; rw [if_neg (by omega)], Below.refl _ _⟩
    clear h hfr
    go_enter Tryd.func15, Tryd.ntmps15
    go_wp2_with fail
    refine bodyPost_ret (v := fndV none) ?_ rfl HF.out
    simp [results, Tryd.results15, go_sem, fndV]
  · by_cases h1 : (s.size : Int) < fr
    · have HF : Hid (FdPost s t fr w (.returned (fndV none)) w) := Lib.hid ⟨none, rfl, by unfold FdIs; rw [if_neg (by omega)], Below.refl _ _⟩
      clear h hfr
      go_enter Tryd.func15, Tryd.ntmps15
      go_wp2_with fail
      refine bodyPost_ret (v := fndV none) ?_ rfl HF.out
      simp [results, Tryd.results15, go_sem, fndV]
    · obtain ⟨a, rfl⟩ : ∃ a : Nat, fr = (a : Int) := ⟨fr.toNat, by omega⟩
      have CS := Lib.hid (msee_any s hs a (by omega) h)
      have ha0 : ¬ (a : Int) < 0 := by omega
      have ha1 : ¬ (s.size : Int) < (a : Int) := by omega
      have hsi : (s.size : Int) ≤ 1000000 := by omega
      clear h hfr h0 h1
      go_enter Tryd.func15, Tryd.ntmps15
      go_wp2_with fail
      refine CS.out.mono ?_
      rintro e w2 ⟨g, rfl, hsn, hg, hb2⟩
      have CF := Lib.hid (mfind_any s hs hsn a (Nat.le_refl _) (by omega))
      have HB2 := Lib.hid hb2
      clear hsn hb2 CS
      unfold seV at CF ⊢
      go_wp2_with fail
      refine CF.out.mono ?_
      rintro e w3 ⟨r, rfl, hr, hb3⟩
      have HF : Hid (FdPost s t (a : Int) w (.returned (fndV r)) w3) := Lib.hid ⟨r, rfl, by unfold FdIs; rw [if_pos (by omega)]; simpa using hr, HB2.out.trans (hb3.mono HB2.out.size)⟩
      clear hr hb3 HB2 CF
      cases r with
      | none =>
        simp only [fndV] at HF ⊢
        go_wp2_with fail
        refine bodyPost_ret (v := fndV none) ?_ rfl HF.out
        simp [results, Tryd.results15, go_sem, fndV]
      | some q =>
        obtain ⟨i, j⟩ := q
        simp only [fndV] at HF ⊢
        go_wp2_with fail
        refine bodyPost_ret (v := fndV (some (i, j))) ?_ rfl HF.out
        simp [results, Tryd.results15, go_sem, fndV]
/-- Is a tree met anywhere? -/
def InIs (s : ByteArray) (t : RT) : Prop := ∃ i j, Met s t i j
def InPost (s : ByteArray) (t : RT) (w : World) (e : Ending) (w' : World) : Prop := ∃ b : Bool, e = .returned (.bool b) ∧ (b = true ↔ InIs s t) ∧ Below w.heap.size w w'
set_option maxHeartbeats 4000000 in
theorem mIn_any (s : ByteArray) (hs : s.size ≤ 1000000) {w : World} {d : Pd} {t : RT} (h : Pg w d t) :
    Calls Tryd.prog 17 #[.pointer (some ⟨d.p, 0, none⟩), .string s] w (InPost s t w) := by
  have CF := Lib.hid (mFind_any s hs 0 (by omega) h)
  clear h
  go_enter Tryd.func17, Tryd.ntmps17
  go_wp2_with fail
  refine CF.out.mono ?_
  rintro e w3 ⟨r, rfl, hr, hb3⟩
  unfold FdIs at hr
  rw [if_pos (by omega)] at hr
  cases r with
  | none =>
    have HF : Hid (InPost s t w (.returned (.bool false)) w3) := Lib.hid ⟨false, rfl, ⟨fun h => (by cases h), fun ⟨i, j, h⟩ => (hr i (by simp) j h).elim⟩, hb3⟩
    clear hr hb3 CF
    simp only [fndV]
    go_wp2_with fail
    refine bodyPost_ret (v := .bool false) ?_ rfl HF.out
    simp [results, Tryd.results17, go_sem]
  | some q =>
    obtain ⟨i, j⟩ := q
    have HF : Hid (InPost s t w (.returned (.bool true)) w3) := Lib.hid ⟨true, rfl, ⟨fun _ => ⟨i, j, hr.2.1⟩, fun _ => rfl⟩, hb3⟩
    clear hr hb3 CF
    simp only [fndV]
    go_wp2_with fail
    refine bodyPost_ret (v := .bool true) ?_ rfl HF.out
    simp [results, Tryd.results17, go_sem]
end Go.Proofs.YtjjejcgpeefclaaDoor

namespace Go.Proofs.YtjjejcgpeefclaaDoor
open Go.RowKit

theorem hasP_one (c : UInt8) (x : Nat) (hx : x < 256) : hasP (withW W4.zero c) x ↔ x = c.toNat := by
  unfold hasP
  rw [(StF.zero.with c).has hx, Bool.false_or, beq_iff_eq]
  exact eq_comm
theorem gS_one {s : ByteArray} {c : UInt8} {i : Nat} : gS s (withW W4.zero c) i ↔ s.data.toList[i]? = some c := by
  unfold gS
  constructor
  · rintro ⟨h, h2⟩
    have hlt := s[i].toNat_lt
    rw [hasP_one c _ (by omega)] at h2
    have : s[i] = c := UInt8.toNat_inj.1 h2
    rw [← this]
    simp [h]
    rfl
  · intro h
    have hi : i < s.size := by
      have := (List.getElem?_eq_some_iff.1 h).1
      simpa using this
    refine ⟨hi, ?_⟩
    have hlt := s[i].toNat_lt
    rw [hasP_one c _ (by omega)]
    have : s[i] = c := by
      have h2 : s.data.toList[i]? = some s[i] := by simp [hi]; rfl
      rw [h2] at h
      exact Option.some.inj h
    rw [this]
theorem lead_one {g : W4 → Nat → Prop} {n : Nat} {st : W4} {i j : Nat} : Lead g n (.mk 1 st []) i j ↔ g st i ∧ i < n ∧ j = i + 1 := by
  unfold Lead
  rw [if_pos rfl]
theorem lead_star {g : W4 → Nat → Prop} {n : Nat} {st : W4} {ks : List RT} {i j : Nat} : Lead g n (.mk 4 st ks) i j ↔ Often (CatL g n ks) i j := by
  unfold Lead
  rw [if_neg (by decide), if_neg (by decide), if_neg (by decide), if_neg (by decide), if_pos rfl]
theorem lead_cat {g : W4 → Nat → Prop} {n : Nat} {st : W4} {ks : List RT} {i j : Nat} : Lead g n (.mk 2 st ks) i j ↔ CatL g n ks i j := by
  unfold Lead
  rw [if_neg (by decide), if_neg (by decide), if_neg (by decide), if_neg (by decide), if_neg (by decide), if_neg (by decide), if_neg (by decide)]
theorem catL_nil {g : W4 → Nat → Prop} {n i j : Nat} : CatL g n [] i j ↔ i = j := by unfold CatL; exact Iff.rfl
theorem catL_cons {g : W4 → Nat → Prop} {n : Nat} {t : RT} {ts : List RT} {i j : Nat} : CatL g n (t :: ts) i j ↔ ∃ k, Lead g n t i k ∧ CatL g n ts k j := by
  conv => lhs; unfold CatL
theorem catL_one {g : W4 → Nat → Prop} {n : Nat} {t : RT} {i j : Nat} : CatL g n [t] i j ↔ Lead g n t i j := by
  rw [catL_cons]
  constructor
  · rintro ⟨k, h, h2⟩
    rw [catL_nil] at h2
    subst h2; exact h
  · exact fun h => ⟨j, h, catL_nil.2 rfl⟩
/-- a*b. -/
def abT : RT := .mk 2 W4.zero [.mk 4 W4.zero [.mk 1 (withW W4.zero 97) []], .mk 1 (withW W4.zero 98) []]
theorem ab_top : topR withW notW orW [97, 42, 98] = .ok (abT, []) := by rfl
theorem ab_often {s : ByteArray} {i k : Nat} (h : Often (CatL (gS s) s.size [.mk 1 (withW W4.zero 97) []]) i k) : i ≤ k ∧ ∀ m, i ≤ m → m < k → s.data.toList[m]? = some 97 := by
  induction h with
  | none i => exact ⟨Nat.le_refl _, fun m h1 h2 => by omega⟩
  | @more i k j h1 h2 ih =>
    rw [catL_one, lead_one] at h1
    obtain ⟨h3, h4, h5⟩ := h1
    have ih1 := ih.1
    refine ⟨by omega, fun m h6 h7 => ?_⟩
    by_cases he : m = i
    · subst he; exact gS_one.1 h3
    · exact ih.2 m (by omega) h7
theorem ab_met {s : ByteArray} {i j : Nat} : Met s abT i j ↔ ∃ k, Often (CatL (gS s) s.size [.mk 1 (withW W4.zero 97) []]) i k ∧ s.data.toList[k]? = some 98 ∧ j = k + 1 := by
  unfold Met abT
  rw [lead_cat, catL_cons]
  constructor
  · rintro ⟨_, k, h1, h2⟩
    rw [lead_star] at h1
    rw [catL_one, lead_one] at h2
    exact ⟨k, h1, gS_one.1 h2.1, h2.2.2⟩
  · rintro ⟨k, h1, h2, h3⟩
    have hk : k < s.size := by
      have := (List.getElem?_eq_some_iff.1 h2).1
      simpa using this
    exact ⟨by omega, k, lead_star.2 h1, catL_one.2 (lead_one.2 ⟨gS_one.2 h2, hk, h3⟩)⟩
def xaabb : ByteArray := ⟨#[120, 97, 97, 98, 98]⟩
theorem ab_find {r : Option (Nat × Nat)} (h : FndIs xaabb abT 0 r) : r = some (1, 4) := by
  have m14 : Met xaabb abT 1 4 := ab_met.2 ⟨3, by
    have h1 : CatL (gS xaabb) xaabb.size [.mk 1 (withW W4.zero 97) []] 1 2 := catL_one.2 (lead_one.2 ⟨gS_one.2 rfl, by decide, rfl⟩)
    have h2 : CatL (gS xaabb) xaabb.size [.mk 1 (withW W4.zero 97) []] 2 3 := catL_one.2 (lead_one.2 ⟨gS_one.2 rfl, by decide, rfl⟩)
    exact .more h1 (.more h2 (.none 3)), rfl, rfl⟩
  have n0 : ∀ j, ¬ Met xaabb abT 0 j := fun j hj => by
    obtain ⟨k, h1, h2, _⟩ := ab_met.1 hj
    have h3 := ab_often h1
    by_cases hk : k = 0
    · subst hk; simp [xaabb] at h2
    · have := h3.2 0 (by omega) (by omega)
      simp [xaabb] at this
  have l1 : ∀ j, Met xaabb abT 1 j → j ≤ 4 := fun j hj => by
    obtain ⟨k, h1, h2, rfl⟩ := ab_met.1 hj
    have h3 := ab_often h1
    by_cases hk : k ≤ 3
    · omega
    · have := h3.2 3 (by omega) (by omega)
      simp [xaabb] at this
  cases r with
  | none => exact (h 1 (by omega) 4 m14).elim
  | some q =>
    obtain ⟨i, j⟩ := q
    obtain ⟨h1, h2, h3, h4⟩ := h
    have hi1 : i ≤ 1 := Nat.le_of_not_lt fun hlt => h4 1 (by omega) hlt 4 m14
    have hi0 : i ≠ 0 := fun e => by subst e; exact n0 j h2
    obtain rfl : i = 1 := by omega
    have := l1 j h2
    have := h3 4 m14
    obtain rfl : j = 4 := by omega
    rfl
def xx : ByteArray := ⟨#[120, 120]⟩
theorem ab_in : ¬ InIs xx abT := fun ⟨i, j, h⟩ => by
  obtain ⟨k, _, h2, _⟩ := ab_met.1 h
  have hk := (List.getElem?_eq_some_iff.1 h2).1
  have : k = 0 ∨ k = 1 := by simp [xx] at hk; omega
  rcases this with rfl | rfl <;> simp [xx] at h2
set_option maxHeartbeats 4000000 in
theorem mawake_any (w : World) (hdz : Dz w) : Calls Tryd.prog 14 #[] w fun e w' => e = .returned (.bool true) ∧ Below w.heap.size w w' := by
  have CO := Lib.hid (mof_any ⟨#[97, 42, 98]⟩ (by decide) w hdz)
  clear hdz
  go_enter Tryd.func14, Tryd.ntmps14
  go_wp2_with fail
  refine CO.out.mono ?_
  rintro e w2 ⟨hb2, (⟨t, r, d, ht, rfl, hpg⟩ | ⟨n, k, ht, _⟩)⟩
  · have hte : t = abT := by
      have h1 : topR withW notW orW [97, 42, 98] = .ok (t, r) := ht
      rw [ab_top] at h1
      injection h1 with h1
      exact (Prod.mk.inj h1).1.symm
    subst hte
    have CF := Lib.hid (mFind_any xaabb (by decide) 0 (by omega) hpg)
    have HPG := Lib.hid hpg
    have HB2 := Lib.hid hb2
    clear hpg hb2 ht CO
    unfold xaabb at CF
    go_wp2_with fail
    refine CF.out.mono ?_
    rintro e w3 ⟨r, rfl, hr, hb3⟩
    have hr2 : r = some (1, 4) := by
      refine ab_find ?_
      unfold FdIs at hr
      rw [if_pos (by decide)] at hr
      exact hr
    subst hr2
    have CI := Lib.hid (mIn_any xx (by decide) (HPG.out.next hb3))
    have HB3 := Lib.hid (HB2.out.trans (hb3.mono HB2.out.size))
    clear hr hb3 CF HPG HB2
    unfold xx at CI
    simp only [fndV]
    go_wp2_with fail
    refine CI.out.mono ?_
    rintro e w4 ⟨b, rfl, hb, hb4⟩
    have hbf : b = false := by
      cases b with
      | false => rfl
      | true => exact (ab_in (hb.1 rfl)).elim
    subst hbf
    have HB4 := Lib.hid (HB3.out.trans (hb4.mono HB3.out.size))
    clear hb hb4 HB3 CI
    go_wp2_with fail
    go_ret
    exact ⟨rfl, HB4.out⟩
  · have h1 : topR withW notW orW [97, 42, 98] = .error (n, k) := ht
    rw [ab_top] at h1
    cases h1
end Go.Proofs.YtjjejcgpeefclaaDoor

namespace Go.Proofs.YtjjejcgpeefclaaDoor

theorem ups_to {P : Nat → Prop} {c x : Nat} (h : c ≤ x) (hn : ∀ y, c ≤ y → y < x → ¬ P y) : ups P x = ups P c := by
  have := ups_gap (Q := P) (c := c) (x - c) (fun b hb => hn _ (by omega) (by omega))
  rwa [show c + (x - c) = x from by omega] at this
/-- What stands behind the places below c. -/
theorem ups_at {P : Nat → Prop} {c : Nat} : ∀ {N : Nat}, c ≤ N → ((ups P N)[(ups P c).length]? = none ∧ ∀ y, c ≤ y → y < N → ¬ P y) ∨ ∃ x, (ups P N)[(ups P c).length]? = some x ∧ c ≤ x ∧ x < N ∧ P x ∧ ∀ y, c ≤ y → y < x → ¬ P y
  | 0, h => by
    obtain rfl : c = 0 := by omega
    exact .inl ⟨by simp [ups], fun y _ h => by omega⟩
  | N + 1, h => by
    by_cases hc : c = N + 1
    · subst hc
      exact .inl ⟨by simp, fun y h1 h2 => by omega⟩
    rcases ups_at (P := P) (c := c) (N := N) (by omega) with ⟨h1, h2⟩ | ⟨x, h1, h2, h3, h4, h5⟩
    · by_cases hN : P N
      · right
        refine ⟨N, ?_, by omega, by omega, hN, h2⟩
        rw [ups_on hN, ups_to (by omega) h2]
        simp
      · left
        refine ⟨by rw [ups_off hN]; exact h1, fun y hy1 hy2 => ?_⟩
        by_cases e : y = N
        · subst e; exact hN
        · exact h2 y hy1 (by omega)
    · right
      refine ⟨x, ?_, h2, by omega, h4, h5⟩
      by_cases hN : P N
      · rw [ups_on hN, List.getElem?_append_left (by
          have := (List.getElem?_eq_some_iff.1 h1).1
          exact this)]
        exact h1
      · rw [ups_off hN]; exact h1
/-- The next place of two: of the first alone. -/
theorem ups_left {P Q : Nat → Prop} {c x : Nat} (hc : c ≤ x) (hP : P x) (hp : ∀ y, c ≤ y → y < x → ¬ P y) (hq : ∀ y, c ≤ y → y < x + 1 → ¬ Q y) :
    (ups P (x + 1)).length = (ups P c).length + 1 ∧ (ups Q (x + 1)).length = (ups Q c).length ∧ ups (fun y => P y ∨ Q y) (x + 1) = ups (fun y => P y ∨ Q y) c ++ [x] := by
  refine ⟨?_, ?_, ?_⟩
  · rw [ups_on hP, ups_to hc hp]; simp
  · rw [ups_to (by omega) hq]
  · rw [ups_on (.inl hP), ups_to hc (fun y h1 h2 => fun h => h.elim (hp y h1 h2) (hq y h1 (by omega)))]
theorem ups_both {P Q : Nat → Prop} {c x : Nat} (hc : c ≤ x) (hP : P x) (hQ : Q x) (hp : ∀ y, c ≤ y → y < x → ¬ P y) (hq : ∀ y, c ≤ y → y < x → ¬ Q y) :
    (ups P (x + 1)).length = (ups P c).length + 1 ∧ (ups Q (x + 1)).length = (ups Q c).length + 1 ∧ ups (fun y => P y ∨ Q y) (x + 1) = ups (fun y => P y ∨ Q y) c ++ [x] := by
  refine ⟨?_, ?_, ?_⟩
  · rw [ups_on hP, ups_to hc hp]; simp
  · rw [ups_on hQ, ups_to hc hq]; simp
  · rw [ups_on (.inl hP), ups_to hc (fun y h1 h2 => fun h => h.elim (hp y h1 h2) (hq y h1 h2))]
theorem ups_congr {P Q : Nat → Prop} (h : ∀ x, P x ↔ Q x) (n : Nat) : ups P n = ups Q n := by
  rw [show P = Q from funext fun x => propext (h x)]
theorem ups_end {P : Nat → Prop} {c N : Nat} (h : c ≤ N) (hn : ∀ y, c ≤ y → y < N → ¬ P y) : ups P N = ups P c := ups_to h hn
/-- Any often, by steps that go on. -/
theorem often_iff {R : Nat → Nat → Prop} (hle : ∀ i j, R i j → i ≤ j) {i j : Nat} : Often R i j ↔ i = j ∨ ∃ k, i < k ∧ R i k ∧ Often R k j := by
  constructor
  · intro h
    induction h with
    | none i => exact .inl rfl
    | @more i k j h h2 ih =>
      by_cases e : i = k
      · subst e; exact ih
      · exact .inr ⟨k, by have := hle _ _ h; omega, h, h2⟩
  · rintro (rfl | ⟨k, _, h, h2⟩)
    · exact .none _
    · exact .more h h2
section
variable {g : W4 → Nat → Prop} {n : Nat}
theorem catL_one_eq (t : RT) : CatL g n [t] = Lead g n t := funext fun _ => funext fun _ => propext catL_one
theorem lead_any4 {st : W4} {t : RT} {i j : Nat} : Lead g n (.mk 4 st [t]) i j ↔ Often (Lead g n t) i j := by rw [lead_star, catL_one_eq]
theorem lead_some5 {st : W4} {t : RT} {i j : Nat} : Lead g n (.mk 5 st [t]) i j ↔ ∃ k, Lead g n t i k ∧ Often (Lead g n t) k j := by
  rw [← catL_one_eq (g := g) (n := n) t]
  conv => lhs; unfold Lead
  rw [if_neg (by decide), if_neg (by decide), if_neg (by decide), if_neg (by decide), if_neg (by decide), if_pos rfl]
theorem lead_maybe6 {st : W4} {t : RT} {i j : Nat} : Lead g n (.mk 6 st [t]) i j ↔ i = j ∨ Lead g n t i j := by
  rw [← catL_one_eq (g := g) (n := n) t]
  conv => lhs; unfold Lead
  rw [if_neg (by decide), if_neg (by decide), if_neg (by decide), if_neg (by decide), if_neg (by decide), if_neg (by decide), if_pos rfl]
theorem lead_or3 {st : W4} {ks : List RT} {i j : Nat} : Lead g n (.mk 3 st ks) i j ↔ AltL g n ks i j := by
  conv => lhs; unfold Lead
  rw [if_neg (by decide), if_pos rfl]
theorem lead_none0 {st : W4} {i j : Nat} : Lead g n (.mk 0 st []) i j ↔ i = j := by
  unfold Lead
  rw [if_neg (by decide), if_neg (by decide), if_neg (by decide), if_neg (by decide), if_neg (by decide), if_neg (by decide), if_neg (by decide), catL_nil]
theorem altL_app {g : W4 → Nat → Prop} {n i j : Nat} : ∀ {a b : List RT}, AltL g n (a ++ b) i j ↔ AltL g n a i j ∨ AltL g n b i j
  | [], b => by simp [AltL]
  | u :: a, b => by rw [List.cons_append, AltL, AltL, altL_app, or_assoc]
theorem catL_last {ts : List RT} {t : RT} {i j : Nat} : CatL g n (ts ++ [t]) i j ↔ ∃ k, CatL g n ts i k ∧ Lead g n t k j := by
  induction ts generalizing i with
  | nil =>
    rw [List.nil_append, catL_one]
    exact ⟨fun h => ⟨i, catL_nil.2 rfl, h⟩, fun ⟨k, h1, h2⟩ => by rw [catL_nil] at h1; subst h1; exact h2⟩
  | cons u ts ih =>
    rw [List.cons_append, catL_cons]
    constructor
    · rintro ⟨k, h1, h2⟩
      obtain ⟨m, h3, h4⟩ := ih.1 h2
      exact ⟨m, catL_cons.2 ⟨k, h1, h3⟩, h4⟩
    · rintro ⟨m, h1, h2⟩
      obtain ⟨k, h3, h4⟩ := catL_cons.1 h1
      exact ⟨k, h3, ih.2 ⟨m, h4, h2⟩⟩
theorem altL_last {ts : List RT} {t : RT} {i j : Nat} : AltL g n (ts ++ [t]) i j ↔ AltL g n ts i j ∨ Lead g n t i j := by
  rw [altL_app]
  simp [AltL]
end
end Go.Proofs.YtjjejcgpeefclaaDoor
