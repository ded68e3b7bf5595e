/-
  CONTRACTS of layer 10: find, Find, In.
-/
import Derived.Test.YtjjejcgpeefclaaDoorMtS4
namespace Go.Proofs.YtjjejcgpeefclaaDoor
open Go.RowKit

/-- The leftmost match from a place on, and of these the longest one; or that there is none. -/
def FndIs (s : ByteArray) (t : RT) (a : Nat) : Option (Nat × Nat) → Prop
  | none => ∀ i, a ≤ i → ∀ j, ¬ Met s t i j
  | some (i, j) => a ≤ i ∧ Met s t i j ∧ (∀ j', Met s t i j' → j' ≤ j) ∧ ∀ i', a ≤ i' → i' < i → ∀ j', ¬ Met s t i' j'
def fndV : Option (Nat × Nat) → Value
  | none => .tuple #[.int .i64 0, .int .i64 0, .bool false]
  | some (i, j) => .tuple #[.int .i64 (i : Int), .int .i64 (j : Int), .bool true]
theorem Met.le2 {s : ByteArray} {t : RT} {i j : Nat} (h : Met s t i j) : i ≤ j ∧ j ≤ s.size := ⟨h.le, h.1⟩
/-- What find answers. -/
def FindPost (s : ByteArray) (t : RT) (a : Nat) (w : World) (e : Ending) (w' : World) : Prop := ∃ r, e = .returned (fndV r) ∧ FndIs s t a r ∧ Below w.heap.size w w'
set_option maxHeartbeats 4000000 in
set_option maxRecDepth 100000 in
theorem mfind_any (s : ByteArray) (hs : s.size ≤ 1000000) {w : World} {d : Pd} {t : RT} {fr g : Nat} (h : Sn w d t s fr g) (a : Nat) (hfa : fr ≤ a) (ha : a ≤ s.size + 1) :
    Calls Tryd.prog 24 #[seV d fr s.size g, .int .i64 (a : Int)] w (FindPost s t a w) := by
  have CB := Lib.hid fun (Z : World) (hZ : Below w.heap.size w Z) (i : Nat) (hi : fr ≤ i ∧ i ≤ s.size) => mbeg_any s hs (h.next hZ) i hi.1 hi.2
  have CE := Lib.hid fun (Z : World) (hZ : Below w.heap.size w Z) (i : Nat) (hi : fr ≤ i ∧ i ≤ s.size) => mend_any s hs (h.next hZ) i hi.1 hi.2
  unfold seV at CB CE ⊢
  generalize (s.size - fr + 1) * d.m = R at *
  obtain ⟨W1, hW1⟩ : ∃ W1, w.alloc (.cells #[.pointer (some ⟨d.p, 0, none⟩), .int .i64 (fr : Int), .int .i64 (s.size : Int), .int .i64 (d.m : Int), .slice (some ⟨g, 0, none⟩) R R] 65) = W1 := ⟨_, rfl⟩
  have hb1 : Below w.heap.size w W1 := by rw [← hW1]; exact (Below.refl _ _).alloc (Nat.le_refl _) _
  have hz1 : W1.heap.size = w.heap.size + 1 := by rw [← hW1]; simp
  have hx1 : W1.heap[w.heap.size]? = some (.cells #[.pointer (some ⟨d.p, 0, none⟩), .int .i64 (fr : Int), .int .i64 (s.size : Int), .int .i64 (d.m : Int), .slice (some ⟨g, 0, none⟩) R R] 65 (0, 0)) := by rw [← hW1]; exact mt_heap_new _ _
  have HSK := Lib.hid fun (Z : World) (hZ : Below W1.heap.size W1 Z) => se_cells (b := w.heap.size) ((hZ.block _ (by omega)).trans hx1)
  have HB1 := Lib.hid hb1
  have HW1 := Lib.hid hW1
  have hsi : (s.size : Int) ≤ 1000000 := by omega
  have hai : (a : Int) ≤ 1000001 := by omega
  clear h hx1 hb1 hW1
  go_enter Tryd.func24, Tryd.ntmps24
  go_upto_region 1 with fail
  rw [HW1.out]
  clear HW1
  go_wp2_with fail
  go_loopw [1] (fun iv wr => ∃ i : Nat, iv = .int .i64 (i : Int) ∧ a ≤ i ∧ i ≤ s.size + 1 ∧ Hid (Below W1.heap.size W1 wr ∧ ∀ i', a ≤ i' → i' < i → ∀ j, ¬ Met s t i' j)) (fun iv _ => s.size + 2 - (intOf iv).toNat)
  case atStart => exact ⟨a, rfl, Nat.le_refl _, ha, Lib.hid ⟨Below.refl _ _, fun i' h1 h2 => by omega⟩⟩
  case round =>
    obtain ⟨i, rfl, hai2, hiN, HI⟩ := hrel
    have hBw : Below w.heap.size w wr := HB1.out.trans (HI.out.1.mono (by omega))
    obtain ⟨s0, s1, s2, s3, s4⟩ := HSK.out wr HI.out.1
    by_cases hi : i ≤ s.size
    · have hii : (i : Int) ≤ (s.size : Int) := by omega
      have CBi := Lib.hid (CB.out wr hBw i ⟨by omega, hi⟩)
      clear hBw
      go_wp2_with fail
      refine CBi.out.mono ?_
      rintro e w2 ⟨b, rfl, hb, hb2⟩
      have HBB := Lib.hid hb
      have HI2 : Hid (Below W1.heap.size W1 w2 ∧ ∀ i', a ≤ i' → i' < i → ∀ j, ¬ Met s t i' j) := Lib.hid ⟨HI.out.1.trans (hb2.mono HI.out.1.size), HI.out.2⟩
      clear hb hb2 HI CBi s0 s1 s2 s3 s4
      obtain ⟨s0, s1, s2, s3, s4⟩ := HSK.out w2 HI2.out.1
      have hBw2 : Below w.heap.size w w2 := HB1.out.trans (HI2.out.1.mono (by omega))
      cases b with
      | true =>
        have CEi := Lib.hid (CE.out w2 hBw2 i ⟨by omega, hi⟩)
        have HBW2 := Lib.hid hBw2
        clear hBw2
        go_wp2_with fail
        refine CEi.out.mono ?_
        rintro e w3 ⟨n, rfl, h1, h2, h3, hb3⟩
        have HFIN : Hid (FindPost s t a w (.returned (fndV (some (i, n)))) w3) := Lib.hid ⟨some (i, n), rfl, ⟨hai2, by
          rcases h2 with h2 | h2
          · obtain ⟨j, hj⟩ := HBB.out.1 (by trivial)
            have := h1 j hj
            have := hj.le
            obtain rfl : j = n := by omega
            exact hj
          · exact h2, h1, HI2.out.2⟩, HBW2.out.trans (hb3.mono HBW2.out.size)⟩
        clear h1 h2 hb3 HBB HI2 CEi s0 s1 s2 s3 s4
        go_wp2_with fail
        refine bodyPost_ret (v := fndV (some (i, n))) ?_ rfl HFIN.out
        simp [results, Tryd.results24, go_sem, fndV]
      | false =>
        have HN : Hid (Below W1.heap.size W1 w2 ∧ ∀ i', a ≤ i' → i' < i + 1 → ∀ j, ¬ Met s t i' j) := Lib.hid ⟨HI2.out.1, fun i' h1 h2 j hj => by
          by_cases he : i' < i
          · exact HI2.out.2 i' h1 he j hj
          · obtain rfl : i' = i := by omega
            have := HBB.out.2 ⟨j, hj⟩
            cases this⟩
        clear HBB HI2 hBw2 s0 s1 s2 s3 s4
        go_wp2_with fail
        refine ⟨⟨i + 1, by simp, by omega, by omega, HN⟩, ?_⟩
        simp [intOf]; omega
    · have hii : ¬ (i : Int) ≤ (s.size : Int) := by omega
      have HFIN : Hid (FindPost s t a w (.returned (fndV none)) wr) := Lib.hid ⟨none, rfl, fun i' h1 j hj => by
        by_cases he : i' < i
        · exact HI.out.2 i' h1 he j hj
        · have := hj.le2; omega, hBw⟩
      clear HI hBw
      go_wp2_with fail
      refine bodyPost_ret (v := fndV none) ?_ rfl HFIN.out
      simp [results, Tryd.results24, go_sem, fndV]
/-- What Find answers from any number on. -/
def FdIs (s : ByteArray) (t : RT) (fr : Int) (r : Option (Nat × Nat)) : Prop := if 0 ≤ fr ∧ fr ≤ (s.size : Int) then FndIs s t fr.toNat r else r = none
def FdPost (s : ByteArray) (t : RT) (fr : Int) (w : World) (e : Ending) (w' : World) : Prop := ∃ r, e = .returned (fndV r) ∧ FdIs s t fr r ∧ Below w.heap.size w w'
set_option maxHeartbeats 4000000 in
theorem mFind_any (s : ByteArray) (hs : s.size ≤ 1000000) (fr : Int) (hfr : -9223372036854775808 ≤ fr ∧ fr ≤ 9223372036854775807) {w : World} {d : Pd} {t : RT} (h : Pg w d t) :
    Calls Tryd.prog 15 #[.pointer (some ⟨d.p, 0, none⟩), .string s, .int .i64 fr] w (FdPost s t fr w) := by
  by_cases h0 : fr < 0
  · have HF : Hid (FdPost s t fr w (.returned (fndV none)) w) := Lib.hid ⟨none, rfl, by unfold FdIs; rw [if_neg (by omega)], Below.refl _ _⟩
    clear h hfr
    go_enter Tryd.func15, Tryd.ntmps15
    go_wp2_with fail
    refine bodyPost_ret (v := fndV none) ?_ rfl HF.out
    simp [results, Tryd.results15, go_sem, fndV]
  · by_cases h1 : (s.size : Int) < fr
    · have HF : Hid (FdPost s t fr w (.returned (fndV none)) w) := Lib.hid ⟨none, rfl, by unfold FdIs; rw [if_neg (by omega)], Below.refl _ _⟩
      clear h hfr
      go_enter Tryd.func15, Tryd.ntmps15
      go_wp2_with fail
      refine bodyPost_ret (v := fndV none) ?_ rfl HF.out
      simp [results, Tryd.results15, go_sem, fndV]
    · obtain ⟨a, rfl⟩ : ∃ a : Nat, fr = (a : Int) := ⟨fr.toNat, by omega⟩
      have CS := Lib.hid (msee_any s hs a (by omega) h)
      have ha0 : ¬ (a : Int) < 0 := by omega
      have ha1 : ¬ (s.size : Int) < (a : Int) := by omega
      have hsi : (s.size : Int) ≤ 1000000 := by omega
      clear h hfr h0 h1
      go_enter Tryd.func15, Tryd.ntmps15
      go_wp2_with fail
      refine CS.out.mono ?_
      rintro e w2 ⟨g, rfl, hsn, hg, hb2⟩
      have CF := Lib.hid (mfind_any s hs hsn a (Nat.le_refl _) (by omega))
      have HB2 := Lib.hid hb2
      clear hsn hb2 CS
      unfold seV at CF ⊢
      go_wp2_with fail
      refine CF.out.mono ?_
      rintro e w3 ⟨r, rfl, hr, hb3⟩
      have HF : Hid (FdPost s t (a : Int) w (.returned (fndV r)) w3) := Lib.hid ⟨r, rfl, by unfold FdIs; rw [if_pos (by omega)]; simpa using hr, HB2.out.trans (hb3.mono HB2.out.size)⟩
      clear hr hb3 HB2 CF
      cases r with
      | none =>
        simp only [fndV] at HF ⊢
        go_wp2_with fail
        refine bodyPost_ret (v := fndV none) ?_ rfl HF.out
        simp [results, Tryd.results15, go_sem, fndV]
      | some q =>
        obtain ⟨i, j⟩ := q
        simp only [fndV] at HF ⊢
        go_wp2_with fail
        refine bodyPost_ret (v := fndV (some (i, j))) ?_ rfl HF.out
        simp [results, Tryd.results15, go_sem, fndV]
/-- Is a tree met anywhere? -/
def InIs (s : ByteArray) (t : RT) : Prop := ∃ i j, Met s t i j
def InPost (s : ByteArray) (t : RT) (w : World) (e : Ending) (w' : World) : Prop := ∃ b : Bool, e = .returned (.bool b) ∧ (b = true ↔ InIs s t) ∧ Below w.heap.size w w'
set_option maxHeartbeats 4000000 in
theorem mIn_any (s : ByteArray) (hs : s.size ≤ 1000000) {w : World} {d : Pd} {t : RT} (h : Pg w d t) :
    Calls Tryd.prog 17 #[.pointer (some ⟨d.p, 0, none⟩), .string s] w (InPost s t w) := by
  have CF := Lib.hid (mFind_any s hs 0 (by omega) h)
  clear h
  go_enter Tryd.func17, Tryd.ntmps17
  go_wp2_with fail
  refine CF.out.mono ?_
  rintro e w3 ⟨r, rfl, hr, hb3⟩
  unfold FdIs at hr
  rw [if_pos (by omega)] at hr
  cases r with
  | none =>
    have HF : Hid (InPost s t w (.returned (.bool false)) w3) := Lib.hid ⟨false, rfl, ⟨fun h => (by cases h), fun ⟨i, j, h⟩ => (hr i (by simp) j h).elim⟩, hb3⟩
    clear hr hb3 CF
    simp only [fndV]
    go_wp2_with fail
    refine bodyPost_ret (v := .bool false) ?_ rfl HF.out
    simp [results, Tryd.results17, go_sem]
  | some q =>
    obtain ⟨i, j⟩ := q
    have HF : Hid (InPost s t w (.returned (.bool true)) w3) := Lib.hid ⟨true, rfl, ⟨fun _ => ⟨i, j, hr.2.1⟩, fun _ => rfl⟩, hb3⟩
    clear hr hb3 CF
    simp only [fndV]
    go_wp2_with fail
    refine bodyPost_ret (v := .bool true) ?_ rfl HF.out
    simp [results, Tryd.results17, go_sem]
end Go.Proofs.YtjjejcgpeefclaaDoor
