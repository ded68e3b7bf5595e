/-
  HELPERS for layer 10's end: a set of leaves is made, and is emptied.
-/
import Derived.Test.YtmlpkimbcjkbkaaGreatDoorMtS1
import Derived.Lib.SliceRun
namespace Go.Proofs.YtmlpkimbcjkbkaaGreatDoor
open Go.RowKit

theorem se_cells {w : World} {b : Nat} {d : Pd} {fr N g n : Nat} (h : w.heap[b]? = some (.cells #[.pointer (some ⟨d.p, 0, none⟩), .int .i64 (fr : Int), .int .i64 (N : Int), .int .i64 (d.m : Int), .slice (some ⟨g, 0, none⟩) n n] 54 (0, 0))) :
    w.cell? ⟨b, 0, none⟩ = some (.pointer (some ⟨d.p, 0, none⟩)) ∧ w.cell? ⟨b, 1, none⟩ = some (.int .i64 (fr : Int)) ∧ w.cell? ⟨b, 2, none⟩ = some (.int .i64 (N : Int)) ∧ w.cell? ⟨b, 3, none⟩ = some (.int .i64 (d.m : Int)) ∧ w.cell? ⟨b, 4, none⟩ = some (.slice (some ⟨g, 0, none⟩) n n) :=
  ⟨rg_cell h, rg_cell h, rg_cell h, rg_cell h, rg_cell h⟩
theorem pg_emp {d : Pd} {E : Nat → Bool} {sp : Nat} (h : sp < 4) : (d.cells E)[7 + sp]? = some (.bool (E sp)) := by
  have : sp = 0 ∨ sp = 1 ∨ sp = 2 ∨ sp = 3 := by omega
  rcases this with rfl | rfl | rfl | rfl <;> rfl
/-- What begins answers. -/
def BegPost (s : ByteArray) (t : RT) (i : Nat) (w : World) (e : Ending) (w' : World) : Prop := ∃ b : Bool, e = .returned (.bool b) ∧ (b = true ↔ ∃ j, Met s t i j) ∧ Below w.heap.size w w'
set_option maxHeartbeats 4000000 in
set_option maxRecDepth 100000 in
theorem mbeg_any (s : ByteArray) (hs : s.size ≤ 1000000) {w : World} {d : Pd} {t : RT} {fr g : Nat} (h : Sn w d t s fr g) (i : Nat) (hfi : fr ≤ i) (hi : i ≤ s.size) :
    Calls Tryz.prog 45 #[seV d fr s.size g, .int .i64 (i : Int)] w (BegPost s t i w) := by
  have hm := h.pg.m
  have hlt := h.pg.lt
  have hgl := h.rows.lt
  obtain ⟨R, hR⟩ : ∃ R, s.size - fr + 1 = R := ⟨_, rfl⟩
  have hsp := spotN_lt i s.size
  obtain ⟨sp, hspe⟩ : ∃ sp, spotN i s.size = sp := ⟨_, rfl⟩
  have CSP := Lib.hid fun Z => msspot_any d fr s.size g i (by omega) hs Z
  have CSR := Lib.hid fun Z => msrow_any d fr s.size g i hm hfi hi hs Z
  unfold seV at CSP CSR
  unfold seV
  have hB := begins_iff (s := s) (t := t) hi
  rw [hspe] at CSP hsp hB
  have hspi : (sp : Int) < 4 := by omega
  have hrl : i - fr < R := by omega
  have hfii : fr + (i - fr) = i := by omega
  have HB := Lib.hid hB
  rw [hR] at CSP CSR ⊢
  have hrows : Tb w g R d.m (fun r x => RowS s t (fr + r) x) := by have := h.rows; rwa [hR] at this
  obtain ⟨W1, hW1⟩ : ∃ W1, w.alloc (.cells #[.pointer (some ⟨d.p, 0, none⟩), .int .i64 (fr : Int), .int .i64 (s.size : Int), .int .i64 (d.m : Int), .slice (some ⟨g, 0, none⟩) (R * d.m) (R * d.m)] 54) = W1 := ⟨_, rfl⟩
  have hb1 : Below w.heap.size w W1 := by rw [← hW1]; exact (Below.refl _ _).alloc (Nat.le_refl _) _
  have hz1 : W1.heap.size = w.heap.size + 1 := by rw [← hW1]; simp
  have hx1 : W1.heap[w.heap.size]? = some (.cells #[.pointer (some ⟨d.p, 0, none⟩), .int .i64 (fr : Int), .int .i64 (s.size : Int), .int .i64 (d.m : Int), .slice (some ⟨g, 0, none⟩) (R * d.m) (R * d.m)] 54 (0, 0)) := by rw [← hW1]; exact mt_heap_new _ _
  obtain ⟨s0, s1, s2, s3, s4⟩ := se_cells hx1
  have HX1 := Lib.hid hx1
  have HB1 := Lib.hid hb1
  have HW1 := Lib.hid hW1
  have HPG := Lib.hid h.pg
  have HRW := Lib.hid hrows
  have HLM := Lib.hid (show ∀ k x, Fst t 0 k x → x < 64 * d.m from fun k x hx => by
    have := Fst.range t 0 k x hx
    have := h.pg.L
    have := h.pg.Lm
    omega)
  clear h hx1 hb1 hW1 hB hspe hrows
  go_enter Tryz.func45, Tryz.ntmps45
  go_upto_region 1 with fail
  rw [HW1.out]
  clear HW1
  go_wp2_with fail
  refine (CSP.out _).mono ?_
  rintro e w2 ⟨rfl, hb2⟩
  have HB2 : Hid (Below w.heap.size w w2) := Lib.hid (HB1.out.trans (hb2.mono (by omega)))
  have HX2 := Lib.hid ((hb2.block _ (by omega)).trans HX1.out)
  have hz2 := hb2.size
  clear hb2 HX1 HB1 s0 s1 s2 s3 s4 CSP
  have HSK : Hid (∀ Z, Below w2.heap.size w2 Z → Z.cell? ⟨w.heap.size, 0, none⟩ = some (.pointer (some ⟨d.p, 0, none⟩)) ∧ Z.cell? ⟨w.heap.size, 1, none⟩ = some (.int .i64 (fr : Int)) ∧ Z.cell? ⟨w.heap.size, 2, none⟩ = some (.int .i64 (s.size : Int)) ∧ Z.cell? ⟨w.heap.size, 3, none⟩ = some (.int .i64 (d.m : Int)) ∧ Z.cell? ⟨w.heap.size, 4, none⟩ = some (.slice (some ⟨g, 0, none⟩) (R * d.m) (R * d.m)) ∧ Z.cell? ⟨d.p, 11, none⟩ = some (.int .i64 (d.m : Int)) ∧ Z.cell? ⟨d.p, 12, none⟩ = some (.slice (some ⟨d.f, 0, none⟩) (4 * d.m) (4 * d.m)) ∧ Z.cell? ⟨d.p, 7 + sp, none⟩ = some (.bool (emp t sp))) := Lib.hid fun Z hZ => by
    obtain ⟨e0, e1, e2, e3, e4⟩ := se_cells ((hZ.block _ (by omega)).trans HX2.out)
    have e5 := (hZ.block d.p (by omega)).trans ((HB2.out.block _ hlt.1).trans HPG.out.prog)
    exact ⟨e0, e1, e2, e3, e4, rg_cell e5, rg_cell e5, (rg_cell e5).trans (pg_emp hsp)⟩
  have HH := HSK.out _ (drew_below w2)
  obtain ⟨b0, hb0⟩ : ∃ b0, emp t sp = b0 := ⟨_, rfl⟩
  rw [hb0] at HSK HH
  have HB0 := Lib.hid hb0
  clear hb0
  cases b0
  · have CR : Hid (∀ Z, Calls Tryz.prog 41 #[.agg #[.int .i64 (d.m : Int), .slice (some ⟨d.f, 0, none⟩) (4 * d.m) (4 * d.m)], .int .i64 (sp : Int)] Z fun e w' => e = .returned (.slice (some ⟨d.f, rwO 4 d.m sp, none⟩) d.m (4 * d.m - sp * d.m)) ∧ Below Z.heap.size Z w') := Lib.hid fun Z =>
      (mrow_any d.f 4 d.m sp hsp (by omega) (by omega) Z).mono fun e w' ⟨h1, h2⟩ => ⟨h1, by rw [h2]; exact (Below.refl _ _).alloc (Nat.le_refl _) _⟩
    have CM : Hid (∀ Z, Below w2.heap.size w2 Z → Calls Tryz.prog 80 #[.slice (some ⟨d.f, rwO 4 d.m sp, none⟩) d.m (4 * d.m - sp * d.m), .slice (some ⟨g, rwO R d.m (i - fr), none⟩) d.m (R * d.m - (i - fr) * d.m)] Z (BoolPost (∃ x, x < 64 * d.m ∧ Fst t 0 sp x ∧ RowS s t (fr + (i - fr)) x) Z)) := Lib.hid fun Z hZ =>
      mmeet_any (((HPG.out.next HB2.out).f).next hZ) ((HRW.out.next HB2.out).next hZ) hsp hrl (by omega) (fun h => rwO_eq hsp h) (fun h => rwO_eq hrl h) _ _
    rw [hfii] at CM
    go_wp2_with fail
    refine wp_region_L (st := []) (S := fun Z => Z.cell? ⟨w.heap.size, 0, none⟩ = some (.pointer (some ⟨d.p, 0, none⟩)) ∧ Z.cell? ⟨w.heap.size, 1, none⟩ = some (.int .i64 (fr : Int)) ∧ Z.cell? ⟨w.heap.size, 2, none⟩ = some (.int .i64 (s.size : Int)) ∧ Z.cell? ⟨w.heap.size, 3, none⟩ = some (.int .i64 (d.m : Int)) ∧ Z.cell? ⟨w.heap.size, 4, none⟩ = some (.slice (some ⟨g, 0, none⟩) (R * d.m) (R * d.m)) ∧ Z.cell? ⟨d.p, 11, none⟩ = some (.int .i64 (d.m : Int)) ∧ Z.cell? ⟨d.p, 12, none⟩ = some (.slice (some ⟨d.f, 0, none⟩) (4 * d.m) (4 * d.m)) ∧ Z.cell? ⟨d.p, 7 + sp, none⟩ = some (.bool false)) (by kernel_rfl) HH (fun hHeld => ?_)
    have HV8 := Lib.hid (drew_below w2)
    clear HH
    refine tkL 0 (v := ?_) rfl ?_ ?_
    rotate_left
    · (intro w hSw; obtain ⟨q0, q1, q2, q3, q4, q5, q6, q7⟩ := hSw; go_simp; try with_reducible rfl)
    try simp only [nrm]
    refine tkL 1 (v := ?_) rfl ?_ ?_
    rotate_left
    · (intro w hSw; obtain ⟨q0, q1, q2, q3, q4, q5, q6, q7⟩ := hSw; go_simp; try with_reducible rfl)
    try simp only [nrm]
    refine tkL 2 (v := ?_) rfl ?_ ?_
    rotate_left
    · (intro w hSw; obtain ⟨q0, q1, q2, q3, q4, q5, q6, q7⟩ := hSw; go_simp; try with_reducible rfl)
    try simp only [nrm]
    refine tkL 3 (v := ?_) rfl ?_ ?_
    rotate_left
    · (intro w hSw; obtain ⟨q0, q1, q2, q3, q4, q5, q6, q7⟩ := hSw; go_simp; try with_reducible rfl)
    try simp only [nrm]
    refine tkL 4 (v := ?_) rfl ?_ ?_
    rotate_left
    · (intro w hSw; obtain ⟨q0, q1, q2, q3, q4, q5, q6, q7⟩ := hSw; go_simp; try with_reducible rfl)
    try simp only [nrm]
    refine tkL 5 (v := ?_) rfl ?_ ?_
    rotate_left
    · (intro w hSw; obtain ⟨q0, q1, q2, q3, q4, q5, q6, q7⟩ := hSw; go_simp; try with_reducible rfl)
    try simp only [nrm]
    refine tkL 6 (v := ?_) rfl ?_ ?_
    rotate_left
    · (intro w hSw; obtain ⟨q0, q1, q2, q3, q4, q5, q6, q7⟩ := hSw; go_simp; try with_reducible rfl)
    try simp only [nrm]
    refine tkL 7 (v := ?_) rfl ?_ ?_
    rotate_left
    · (intro w hSw; obtain ⟨q0, q1, q2, q3, q4, q5, q6, q7⟩ := hSw; go_simp; try with_reducible rfl)
    try simp only [nrm]
    refine tkL 8 (v := ?_) rfl ?_ ?_
    rotate_left
    · (intro w hSw; obtain ⟨q0, q1, q2, q3, q4, q5, q6, q7⟩ := hSw; go_simp; try with_reducible rfl)
    try simp only [nrm]
    refine tkL 9 (v := ?_) rfl ?_ ?_
    rotate_left
    · (intro w hSw; obtain ⟨q0, q1, q2, q3, q4, q5, q6, q7⟩ := hSw; go_simp; try with_reducible rfl)
    try simp only [nrm]
    refine tkL 10 (v := ?_) rfl ?_ ?_
    rotate_left
    · (intro w hSw; obtain ⟨q0, q1, q2, q3, q4, q5, q6, q7⟩ := hSw; go_simp; try with_reducible rfl)
    try simp only [nrm]
    refine tkL 11 (v := ?_) rfl ?_ ?_
    rotate_left
    · (intro w hSw; obtain ⟨q0, q1, q2, q3, q4, q5, q6, q7⟩ := hSw; go_simp; try with_reducible rfl)
    try simp only [nrm]
    refine tkL 12 (v := ?_) rfl ?_ ?_
    rotate_left
    · (intro w hSw; obtain ⟨q0, q1, q2, q3, q4, q5, q6, q7⟩ := hSw; go_simp; try with_reducible rfl)
    try simp only [nrm]
    refine tkL 13 (v := ?_) rfl ?_ ?_
    rotate_left
    · (intro w hSw; obtain ⟨q0, q1, q2, q3, q4, q5, q6, q7⟩ := hSw; go_simp; try with_reducible rfl)
    try simp only [nrm]
    refine tkL 14 (v := ?_) rfl ?_ ?_
    rotate_left
    · (intro w hSw; obtain ⟨q0, q1, q2, q3, q4, q5, q6, q7⟩ := hSw; go_simp; try with_reducible rfl)
    try simp only [nrm]
    refine tkL 15 (v := ?_) rfl ?_ ?_
    rotate_left
    · (intro w hSw; obtain ⟨q0, q1, q2, q3, q4, q5, q6, q7⟩ := hSw; go_simp; try with_reducible rfl)
    try simp only [nrm]
    refine tkL 17 (v := ?_) rfl ?_ ?_
    rotate_left
    · (intro w hSw; obtain ⟨q0, q1, q2, q3, q4, q5, q6, q7⟩ := hSw; go_simp; try with_reducible rfl)
    try simp only [nrm]
    refine tkL 18 (v := ?_) rfl ?_ ?_
    rotate_left
    · (intro w hSw; obtain ⟨q0, q1, q2, q3, q4, q5, q6, q7⟩ := hSw; go_simp; try with_reducible rfl)
    try simp only [nrm]
    refine rdL 16 rfl (fun K hK => ?_)
    go_simp
    refine (CR.out _).mono ?_
    rintro e w9 ⟨rfl, hb9⟩
    have HV9 := Lib.hid (HV8.out.trans (hb9.mono HV8.out.size))
    have hH9 := HSK.out _ HV9.out
    refine hK.out _ _ hH9 (fun hHeld => ?_)
    clear hK K hb9 HV8 hH9
    have HV8 := HV9
    clear HV9
    try simp only [nrm]
    refine rdL 19 rfl (fun K hK => ?_)
    go_simp
    refine (CSR.out _).mono ?_
    rintro e w9 ⟨rfl, hb9⟩
    have HV9 := Lib.hid (HV8.out.trans (hb9.mono HV8.out.size))
    have hH9 := HSK.out _ HV9.out
    refine hK.out _ _ hH9 (fun hHeld => ?_)
    clear hK K hb9 HV8 hH9
    have HV8 := HV9
    clear HV9
    unfold rwV
    try simp only [nrm]
    refine rdL 20 rfl (fun K hK => ?_)
    go_simp
    refine (CM.out _ HV8.out).mono ?_
    rintro e w9 ⟨b, rfl, hb, rfl⟩
    have HBM := Lib.hid hb
    clear hb
    refine hK.out _ _ (HSK.out _ HV8.out) (fun hHeld => ?_)
    clear hK K
    try simp only [nrm]
    refine tkL 21 (v := ?_) rfl ?_ ?_
    rotate_left
    · (intro w hSw; obtain ⟨q0, q1, q2, q3, q4, q5, q6, q7⟩ := hSw; go_simp; try with_reducible rfl)
    try simp only [nrm]
    refine tkL 22 (v := ?_) rfl ?_ ?_
    rotate_left
    · (intro w hSw; obtain ⟨q0, q1, q2, q3, q4, q5, q6, q7⟩ := hSw; go_simp; try with_reducible rfl)
    try simp only [nrm]
    refine wpAnyL_done (by kernel_rfl) ?_ _
    clear hHeld
    go_wp2_with fail
    refine bodyPost_ret (v := .bool b) ?_ rfl ⟨b, rfl, ?_, HB2.out.trans (HV8.out.mono (by omega))⟩
    · simp [results, Tryz.results45, go_sem]
    · rw [HBM.out, HB.out, HB0.out]
      constructor
      · rintro ⟨x, _, h1, h2⟩; exact .inr ⟨x, h1, h2⟩
      · rintro (h | ⟨x, h1, h2⟩)
        · cases h
        · exact ⟨x, HLM.out _ _ h1, h1, h2⟩
  · go_wp2_with fail
    refine wp_region_L (st := []) (S := fun Z => Z.cell? ⟨w.heap.size, 0, none⟩ = some (.pointer (some ⟨d.p, 0, none⟩)) ∧ Z.cell? ⟨w.heap.size, 1, none⟩ = some (.int .i64 (fr : Int)) ∧ Z.cell? ⟨w.heap.size, 2, none⟩ = some (.int .i64 (s.size : Int)) ∧ Z.cell? ⟨w.heap.size, 3, none⟩ = some (.int .i64 (d.m : Int)) ∧ Z.cell? ⟨w.heap.size, 4, none⟩ = some (.slice (some ⟨g, 0, none⟩) (R * d.m) (R * d.m)) ∧ Z.cell? ⟨d.p, 11, none⟩ = some (.int .i64 (d.m : Int)) ∧ Z.cell? ⟨d.p, 12, none⟩ = some (.slice (some ⟨d.f, 0, none⟩) (4 * d.m) (4 * d.m)) ∧ Z.cell? ⟨d.p, 7 + sp, none⟩ = some (.bool true)) (by kernel_rfl) HH (fun hHeld => ?_)
    have HV8 := Lib.hid (drew_below w2)
    clear HH
    refine tkL 0 (v := ?_) rfl ?_ ?_
    rotate_left
    · (intro w hSw; obtain ⟨q0, q1, q2, q3, q4, q5, q6, q7⟩ := hSw; go_simp; try with_reducible rfl)
    try simp only [nrm]
    refine tkL 1 (v := ?_) rfl ?_ ?_
    rotate_left
    · (intro w hSw; obtain ⟨q0, q1, q2, q3, q4, q5, q6, q7⟩ := hSw; go_simp; try with_reducible rfl)
    try simp only [nrm]
    refine tkL 2 (v := ?_) rfl ?_ ?_
    rotate_left
    · (intro w hSw; obtain ⟨q0, q1, q2, q3, q4, q5, q6, q7⟩ := hSw; go_simp; try with_reducible rfl)
    try simp only [nrm]
    refine tkL 3 (v := ?_) rfl ?_ ?_
    rotate_left
    · (intro w hSw; obtain ⟨q0, q1, q2, q3, q4, q5, q6, q7⟩ := hSw; go_simp; try with_reducible rfl)
    try simp only [nrm]
    refine tkL 4 (v := ?_) rfl ?_ ?_
    rotate_left
    · (intro w hSw; obtain ⟨q0, q1, q2, q3, q4, q5, q6, q7⟩ := hSw; go_simp; try with_reducible rfl)
    try simp only [nrm]
    refine tkL 5 (v := ?_) rfl ?_ ?_
    rotate_left
    · (intro w hSw; obtain ⟨q0, q1, q2, q3, q4, q5, q6, q7⟩ := hSw; go_simp; try with_reducible rfl)
    try simp only [nrm]
    refine tkL 6 (v := ?_) rfl ?_ ?_
    rotate_left
    · (intro w hSw; obtain ⟨q0, q1, q2, q3, q4, q5, q6, q7⟩ := hSw; go_simp; try with_reducible rfl)
    try simp only [nrm]
    refine tkL 7 (v := ?_) rfl ?_ ?_
    rotate_left
    · (intro w hSw; obtain ⟨q0, q1, q2, q3, q4, q5, q6, q7⟩ := hSw; go_simp; try with_reducible rfl)
    try simp only [nrm]
    refine tkL 8 (v := ?_) rfl ?_ ?_
    rotate_left
    · (intro w hSw; obtain ⟨q0, q1, q2, q3, q4, q5, q6, q7⟩ := hSw; go_simp; try with_reducible rfl)
    try simp only [nrm]
    refine skL 9 rfl ?_
    try simp only [nrm]
    refine skL 10 rfl ?_
    try simp only [nrm]
    refine skL 11 rfl ?_
    try simp only [nrm]
    refine skL 12 rfl ?_
    try simp only [nrm]
    refine skL 13 rfl ?_
    try simp only [nrm]
    refine skL 14 rfl ?_
    try simp only [nrm]
    refine skL 15 rfl ?_
    try simp only [nrm]
    refine skL 16 rfl ?_
    try simp only [nrm]
    refine skL 17 rfl ?_
    try simp only [nrm]
    refine skL 18 rfl ?_
    try simp only [nrm]
    refine skL 19 rfl ?_
    try simp only [nrm]
    refine skL 20 rfl ?_
    try simp only [nrm]
    refine tkL 21 (v := ?_) rfl ?_ ?_
    rotate_left
    · (intro w hSw; obtain ⟨q0, q1, q2, q3, q4, q5, q6, q7⟩ := hSw; go_simp; try with_reducible rfl)
    try simp only [nrm]
    refine tkL 22 (v := ?_) rfl ?_ ?_
    rotate_left
    · (intro w hSw; obtain ⟨q0, q1, q2, q3, q4, q5, q6, q7⟩ := hSw; go_simp; try with_reducible rfl)
    try simp only [nrm]
    refine wpAnyL_done (by kernel_rfl) ?_ _
    clear hHeld
    go_wp2_with fail
    refine bodyPost_ret (v := .bool true) ?_ rfl ⟨true, rfl, ?_, HB2.out.trans (HV8.out.mono (by omega))⟩
    · simp [results, Tryz.results45, go_sem]
    · rw [HB.out, HB0.out]; simp
end Go.Proofs.YtmlpkimbcjkbkaaGreatDoor

namespace Go.Proofs.YtmlpkimbcjkbkaaGreatDoor
open Go.RowKit

theorem tab_clear {g m : Nat} : ∀ (n k : Nat) (w : World) (P : Nat → Nat → Prop), Tb w g 1 m P → k + n = m → Tb (w.setCells g k (List.replicate n (.int .u64 0))) g 1 m (fun r x => x < 64 * k ∧ P r x) ∧ Onl g w (w.setCells g k (List.replicate n (.int .u64 0)))
  | 0, k, w, P, h, e => by
    subst e
    exact ⟨h.congr fun r x _ hx => by simp only [Nat.add_zero] at hx; simp [hx], Onl.refl _ _⟩
  | n + 1, k, w, P, h, e => by
    have h1 := h.set (i := 0) (j := k) (by omega) (by omega) (fun _ => False)
    rw [wd_none, show 0 * m + k = k by omega] at h1
    obtain ⟨h2, h3⟩ := tab_clear n (k + 1) _ _ h1 (by omega)
    refine ⟨h2.congr fun r x hr hx => ?_, ((Onl.refl g w).setCell k (.int .u64 0)).trans h3⟩
    obtain rfl : r = 0 := by omega
    by_cases hk : x / 64 = k
    · have h4 : ¬ x < 64 * k := by omega
      simp [hk, h4]
    · have h4 : x < 64 * (k + 1) ↔ x < 64 * k := by omega
      simp [hk, h4]
theorem Tryz.zeroU64 (w : World) : (zeroValue 40).run Tryz.prog w = .ok (.int .u64 0) w := by
  obtain ⟨i0, hi, hz0, hz1, hz2⟩ := info_parts Tryz.infoU64
  simp [zeroValue, typeInfo, hi, hz0]
theorem run_mclear {g m c : Nat} {P : Nat → Nat → Prop} (ty : TypeId) (w : World) (h : Tb w g 1 m P) :
    ∃ w', (Builtin.clear_ #[95] ty #[.slice (some ⟨g, 0, none⟩) m c]).run Tryz.prog w = .ok (.tuple #[]) w' ∧ Tb w' g 1 m (fun _ _ => False) ∧ Onl g w w' := by
  by_cases hm : m = 0
  · subst hm
    refine ⟨w, ?_, h.congr fun _ x _ hx => by omega, Onl.refl _ _⟩
    simp [Builtin.clear_, run_underlying Tryz.underlying95]
  · have hr := Lib.run_clear_slice (P := Tryz.prog) w 95 40 ty (.int .u64 0) Tryz.underlying95 Tryz.zeroU64 rfl rfl g 0 m c (by omega) (fun j hj => by
      have := h.cell (i := 0) (by omega) hj
      rw [show 0 * m + j = 0 + j by omega] at this
      rw [this]; rfl) (fun j _ => h.frozen)
    obtain ⟨h1, h2⟩ := tab_clear m 0 w P h (by omega)
    exact ⟨_, hr, h1.congr fun _ x _ _ => by simp, h2⟩
theorem run_mmake (m : Nat) (hm : m ≤ 100) (w : World) : (Instr.makeSlice 95 (.int .i64 (m : Int)) (.int .i64 (m : Int))).run Tryz.prog w = .ok (.slice (some ⟨w.heap.size, 0, none⟩) m m) (w.alloc (.cells (tabA 1 m (fun _ _ => False)) 40)) := by
  obtain ⟨i0, hi, hz0, hz1, hz2⟩ := info_parts Tryz.infoU64
  have hr := run_make (P := Tryz.prog) w 95 40 i0 (.int .u64 0) Tryz.underlying95 hi hz0 .i64 .i64 (m : Int) (m : Int) (by omega) (by omega) (by rw [hz2]; omega) (by omega)
  have hmt := made_tab 1 m
  rw [hz1, Int.toNat_natCast] at hr
  rw [Nat.one_mul] at hmt
  rw [hmt] at hr
  exact hr
end Go.Proofs.YtmlpkimbcjkbkaaGreatDoor
