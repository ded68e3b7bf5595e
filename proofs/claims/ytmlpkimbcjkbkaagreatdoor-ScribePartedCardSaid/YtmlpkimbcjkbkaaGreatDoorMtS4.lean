/-
  CONTRACT of layer 10's end: where the longest match ends that begins at a place.
-/
import Derived.Test.YtmlpkimbcjkbkaaGreatDoorMtS3
import Derived.Deep.DeepCutAuto
import Derived.Deep.CutBlock
namespace Go.Proofs.YtmlpkimbcjkbkaaGreatDoor
open Go.RowKit

/-- Two sets are made. -/
def MkR (W V : World) (m P Q : Nat) : Prop := Below W.heap.size W V ∧ W.heap.size ≤ P ∧ W.heap.size ≤ Q ∧ P ≠ Q ∧ Tb V P 1 m (fun _ _ => False) ∧ Tb V Q 1 m (fun _ _ => False)
/-- What the loop holds. -/
structure EndI (s : ByteArray) (t : RT) (i m : Nat) (W0 : World) (a e gn gx : Nat) (W : World) : Prop where
  tn : Tb W gn 1 m (fun _ x => NowS s t i (a - 1) x)
  tx : ∃ P, Tb W gx 1 m P
  ne : gn ≠ gx
  bn : W0.heap.size ≤ gn
  bx : W0.heap.size ≤ gx
  below : Below W0.heap.size W0 W
  ia : i < a
  an : a ≤ s.size + 1
  e1 : ∀ j, j < a → Met s t i j → j ≤ e
  e2 : e = i ∨ Met s t i e
  e3 : i ≤ e ∧ e < a
/-- What end answers. -/
def EndPost (s : ByteArray) (t : RT) (i : Nat) (w : World) (e : Ending) (w' : World) : Prop := ∃ n : Nat, e = .returned (.int .i64 (n : Int)) ∧ (∀ j, Met s t i j → j ≤ n) ∧ (n = i ∨ Met s t i n) ∧ i ≤ n ∧ Below w.heap.size w w'
set_option maxHeartbeats 2500000 in
set_option maxRecDepth 100000 in
theorem mend_any (s : ByteArray) (hs : s.size ≤ 1000000) {w : World} {d : Pd} {t : RT} {fr g : Nat} (h : Sn w d t s fr g) (i : Nat) (hfi : fr ≤ i) (hi : i ≤ s.size) :
    Calls Tryz.prog 46 #[seV d fr s.size g, .int .i64 (i : Int)] w (EndPost s t i w) := by
  have hm := h.pg.m
  have hlt := h.pg.lt
  have hgl := h.rows.lt
  obtain ⟨R, hR⟩ : ∃ R, s.size - fr + 1 = R := ⟨_, rfl⟩
  have hsp := spotN_lt i s.size
  obtain ⟨sp, hspe⟩ : ∃ sp, spotN i s.size = sp := ⟨_, rfl⟩
  have CSP := Lib.hid fun (a : Nat) (ha : a ≤ s.size + 1) Z => msspot_any d fr s.size g a (by omega) hs Z
  have CSR := Lib.hid fun (a : Nat) (ha : fr ≤ a ∧ a ≤ s.size) Z => msrow_any d fr s.size g a hm ha.1 ha.2 hs Z
  unfold seV at CSP CSR
  unfold seV
  have hrl : i - fr < R := by omega
  have hfii : fr + (i - fr) = i := by omega
  have hRm : R * d.m ≤ 1000000000 := by
    have := Nat.mul_le_mul (show R ≤ 1000001 by omega) hm
    omega
  have hLm : d.L * d.m ≤ 1000000000 := by
    have := Nat.mul_le_mul (show d.L ≤ 6400 by have := h.pg.Lm; omega) hm
    omega
  rw [hR] at CSP CSR ⊢
  have hrows : Tb w g R d.m (fun r x => RowS s t (fr + r) x) := by have := h.rows; rwa [hR] at this
  obtain ⟨W1, hW1⟩ : ∃ W1, w.alloc (.cells #[.pointer (some ⟨d.p, 0, none⟩), .int .i64 (fr : Int), .int .i64 (s.size : Int), .int .i64 (d.m : Int), .slice (some ⟨g, 0, none⟩) (R * d.m) (R * d.m)] 54) = W1 := ⟨_, rfl⟩
  have hb1 : Below w.heap.size w W1 := by rw [← hW1]; exact (Below.refl _ _).alloc (Nat.le_refl _) _
  have hz1 : W1.heap.size = w.heap.size + 1 := by rw [← hW1]; simp
  have hx1 : W1.heap[w.heap.size]? = some (.cells #[.pointer (some ⟨d.p, 0, none⟩), .int .i64 (fr : Int), .int .i64 (s.size : Int), .int .i64 (d.m : Int), .slice (some ⟨g, 0, none⟩) (R * d.m) (R * d.m)] 54 (0, 0)) := by rw [← hW1]; exact mt_heap_new _ _
  have HX1 := Lib.hid hx1
  have HB1 := Lib.hid hb1
  have HW1 := Lib.hid hW1
  have HPG := Lib.hid (h.pg.next hb1)
  have HRW := Lib.hid (hrows.next hb1)
  have HLM := Lib.hid (show (∀ k x, Fst t 0 k x → x < 64 * d.m) ∧ (∀ i x, tkS s t x i → x < 64 * d.m ∧ x < d.L) ∧ d.L ≤ 64 * d.m from ⟨fun k x hx => by
    have := Fst.range t 0 k x hx
    have := h.pg.L
    have := h.pg.Lm
    omega, fun i x ⟨_, hx⟩ => by
    have := Tks.range hasP t 0 x _ hx
    have := h.pg.L
    have := h.pg.Lm
    omega, h.pg.Lm⟩)
  have hn1 : ∀ i x, NowS s t 0 i x → True := fun _ _ _ => trivial
  clear h hx1 hb1 hW1 hrows hn1
  have HNL : Hid (∀ k x, NowS s t i k x → x < 64 * d.m ∧ x < d.L ∧ k < s.size) := Lib.hid fun k x hx => by
    have h1 : tkS s t x k := by cases hx.1 <;> assumption
    have h2 := HLM.out.2.1 k x h1
    exact ⟨h2.1, h2.2, hx.1.lt⟩
  have HSK : Hid (∀ Z, Below W1.heap.size W1 Z → Z.cell? ⟨w.heap.size, 0, none⟩ = some (.pointer (some ⟨d.p, 0, none⟩)) ∧ Z.cell? ⟨w.heap.size, 1, none⟩ = some (.int .i64 (fr : Int)) ∧ Z.cell? ⟨w.heap.size, 2, none⟩ = some (.int .i64 (s.size : Int)) ∧ Z.cell? ⟨w.heap.size, 3, none⟩ = some (.int .i64 (d.m : Int)) ∧ Z.cell? ⟨w.heap.size, 4, none⟩ = some (.slice (some ⟨g, 0, none⟩) (R * d.m) (R * d.m)) ∧ Z.cell? ⟨d.p, 0, none⟩ = some (.int .i64 (d.m : Int)) ∧ Z.cell? ⟨d.p, 5, none⟩ = some (.int .i64 (d.m : Int)) ∧ Z.cell? ⟨d.p, 6, none⟩ = some (.slice (some ⟨d.h, 0, none⟩) (d.L * d.m) (d.L * d.m)) ∧ Z.cell? ⟨d.p, 11, none⟩ = some (.int .i64 (d.m : Int)) ∧ Z.cell? ⟨d.p, 12, none⟩ = some (.slice (some ⟨d.f, 0, none⟩) (4 * d.m) (4 * d.m)) ∧ Z.cell? ⟨d.p, 13, none⟩ = some (.int .i64 (d.m : Int)) ∧ Z.cell? ⟨d.p, 14, none⟩ = some (.slice (some ⟨d.l, 0, none⟩) (4 * d.m) (4 * d.m))) := Lib.hid fun Z hZ => by
    obtain ⟨e0, e1, e2, e3, e4⟩ := se_cells ((hZ.block _ (by omega)).trans HX1.out)
    have e5 := (hZ.block d.p (by omega)).trans HPG.out.prog
    exact ⟨e0, e1, e2, e3, e4, rg_cell e5, rg_cell e5, rg_cell e5, rg_cell e5, rg_cell e5, rg_cell e5, rg_cell e5⟩
  have HMK : Hid (∀ Z, (Instr.makeSlice 95 (.int .i64 (d.m : Int)) (.int .i64 (d.m : Int))).run Tryz.prog Z = .ok (.slice (some ⟨Z.heap.size, 0, none⟩) d.m d.m) (Z.alloc (.cells (tabA 1 d.m (fun _ _ => False)) 40))) := Lib.hid fun Z => run_mmake d.m hm Z
  go_enter Tryz.func46, Tryz.ntmps46
  go_upto_region 1 with fail
  rw [HW1.out]
  clear HW1
  go_upto_region 2 with fail
  go_cut [6, 7] (fun v6 v7 wx => ∃ gn gx : Nat, v6 = .slice (some ⟨gn, 0, none⟩) d.m d.m ∧ v7 = .slice (some ⟨gx, 0, none⟩) d.m d.m ∧ Hid (MkR W1 wx d.m gn gx))
  case first =>
    refine wp_region_L (st := []) (S := fun Z => (Z.cell? ⟨w.heap.size, 0, none⟩ = some (.pointer (some ⟨d.p, 0, none⟩)) ∧ Z.cell? ⟨w.heap.size, 1, none⟩ = some (.int .i64 (fr : Int)) ∧ Z.cell? ⟨w.heap.size, 2, none⟩ = some (.int .i64 (s.size : Int)) ∧ Z.cell? ⟨w.heap.size, 3, none⟩ = some (.int .i64 (d.m : Int)) ∧ Z.cell? ⟨w.heap.size, 4, none⟩ = some (.slice (some ⟨g, 0, none⟩) (R * d.m) (R * d.m)) ∧ Z.cell? ⟨d.p, 0, none⟩ = some (.int .i64 (d.m : Int)) ∧ Z.cell? ⟨d.p, 5, none⟩ = some (.int .i64 (d.m : Int)) ∧ Z.cell? ⟨d.p, 6, none⟩ = some (.slice (some ⟨d.h, 0, none⟩) (d.L * d.m) (d.L * d.m)) ∧ Z.cell? ⟨d.p, 11, none⟩ = some (.int .i64 (d.m : Int)) ∧ Z.cell? ⟨d.p, 12, none⟩ = some (.slice (some ⟨d.f, 0, none⟩) (4 * d.m) (4 * d.m)) ∧ Z.cell? ⟨d.p, 13, none⟩ = some (.int .i64 (d.m : Int)) ∧ Z.cell? ⟨d.p, 14, none⟩ = some (.slice (some ⟨d.l, 0, none⟩) (4 * d.m) (4 * d.m))) ∧ Below W1.heap.size W1 Z) (by kernel_rfl) ⟨HSK.out _ (drew_below W1), drew_below W1⟩ (fun hHeld => ?_)
    generalize W1.drew = w8 at *
    refine tkL 0 (v := ?_) rfl ?_ ?_
    rotate_left
    · (intro w hSw; obtain ⟨⟨q0, q1, q2, q3, q4, q5, q6, q7, q8, q9, q10, q11⟩, _⟩ := hSw; go_simp; try with_reducible rfl)
    try simp only [nrm]
    refine tkL 1 (v := ?_) rfl ?_ ?_
    rotate_left
    · (intro w hSw; obtain ⟨⟨q0, q1, q2, q3, q4, q5, q6, q7, q8, q9, q10, q11⟩, _⟩ := hSw; go_simp; try with_reducible rfl)
    try simp only [nrm]
    refine tkL 2 (v := ?_) rfl ?_ ?_
    rotate_left
    · (intro w hSw; obtain ⟨⟨q0, q1, q2, q3, q4, q5, q6, q7, q8, q9, q10, q11⟩, _⟩ := hSw; go_simp; try with_reducible rfl)
    try simp only [nrm]
    refine tkL 3 (v := ?_) rfl ?_ ?_
    rotate_left
    · (intro w hSw; obtain ⟨⟨q0, q1, q2, q3, q4, q5, q6, q7, q8, q9, q10, q11⟩, _⟩ := hSw; go_simp; try with_reducible rfl)
    try simp only [nrm]
    refine tkL 4 (v := ?_) rfl ?_ ?_
    rotate_left
    · (intro w hSw; obtain ⟨⟨q0, q1, q2, q3, q4, q5, q6, q7, q8, q9, q10, q11⟩, _⟩ := hSw; go_simp; try with_reducible rfl)
    try simp only [nrm]
    refine tkL 6 (v := ?_) rfl ?_ ?_
    rotate_left
    · (intro w hSw; obtain ⟨⟨q0, q1, q2, q3, q4, q5, q6, q7, q8, q9, q10, q11⟩, _⟩ := hSw; go_simp; try with_reducible rfl)
    try simp only [nrm]
    refine tkL 7 (v := ?_) rfl ?_ ?_
    rotate_left
    · (intro w hSw; obtain ⟨⟨q0, q1, q2, q3, q4, q5, q6, q7, q8, q9, q10, q11⟩, _⟩ := hSw; go_simp; try with_reducible rfl)
    try simp only [nrm]
    refine tkL 8 (v := ?_) rfl ?_ ?_
    rotate_left
    · (intro w hSw; obtain ⟨⟨q0, q1, q2, q3, q4, q5, q6, q7, q8, q9, q10, q11⟩, _⟩ := hSw; go_simp; try with_reducible rfl)
    try simp only [nrm]
    refine tkL 9 (v := ?_) rfl ?_ ?_
    rotate_left
    · (intro w hSw; obtain ⟨⟨q0, q1, q2, q3, q4, q5, q6, q7, q8, q9, q10, q11⟩, _⟩ := hSw; go_simp; try with_reducible rfl)
    try simp only [nrm]
    refine tkL 10 (v := ?_) rfl ?_ ?_
    rotate_left
    · (intro w hSw; obtain ⟨⟨q0, q1, q2, q3, q4, q5, q6, q7, q8, q9, q10, q11⟩, _⟩ := hSw; go_simp; try with_reducible rfl)
    try simp only [nrm]
    refine wpAnyL_ready (rs := [5, 11]) (by kernel_rfl) (by simp) ?_
    refine AllReadyL.cons (o := _) rfl (fun K hK => ?_) (AllReadyL.cons (o := _) rfl (fun K hK => ?_) AllReadyL.nil)
    · have hr := HMK.out w8
      go_simp
      clear hr
      have hba : Below w8.heap.size w8 (w8.alloc (Obj.cells (tabA 1 d.m (fun _ _ => False)) 40)) := (Below.refl _ _).alloc (Nat.le_refl _) _
      have h5 : Tb (w8.alloc (Obj.cells (tabA 1 d.m (fun _ _ => False)) 40)) w8.heap.size 1 d.m (fun _ _ => False) := mt_heap_new _ _
      have hl5 := hHeld.2.size
      have hB9 := hHeld.2.trans (hba.mono hHeld.2.size)
      refine hK.out _ _ ⟨HSK.out _ hB9, hB9⟩ (fun hHeld => ?_)
      clear hK K hba hB9
      generalize w8.heap.size = P5 at *
      generalize w8.alloc (Obj.cells (tabA 1 d.m (fun _ _ => False)) 40) = w9 at *
      obtain ⟨w8, hw8⟩ : ∃ x, x = w9 := ⟨_, rfl⟩
      subst hw8
      try simp only [nrm]
      refine tkL 12 (v := ?_) rfl ?_ ?_
      rotate_left
      · (intro w hSw; obtain ⟨⟨q0, q1, q2, q3, q4, q5, q6, q7, q8, q9, q10, q11⟩, _⟩ := hSw; go_simp; try with_reducible rfl)
      try simp only [nrm]
      refine rdL 11 rfl (fun K hK => ?_)
      have hr := HMK.out w8
      go_simp
      clear hr
      have hba : Below w8.heap.size w8 (w8.alloc (Obj.cells (tabA 1 d.m (fun _ _ => False)) 40)) := (Below.refl _ _).alloc (Nat.le_refl _) _
      have h11 : Tb (w8.alloc (Obj.cells (tabA 1 d.m (fun _ _ => False)) 40)) w8.heap.size 1 d.m (fun _ _ => False) := mt_heap_new _ _
      have hl11 := hHeld.2.size
      have hne : P5 ≠ w8.heap.size := Nat.ne_of_lt h5.lt
      have h5 := h5.next hba
      have hB9 := hHeld.2.trans (hba.mono hHeld.2.size)
      refine hK.out _ _ ⟨HSK.out _ hB9, hB9⟩ (fun hHeld => ?_)
      clear hK K hba hB9
      generalize w8.heap.size = P11 at *
      generalize w8.alloc (Obj.cells (tabA 1 d.m (fun _ _ => False)) 40) = w9 at *
      obtain ⟨w8, hw8⟩ : ∃ x, x = w9 := ⟨_, rfl⟩
      subst hw8
      try simp only [nrm]
      refine tkL 13 (v := ?_) rfl ?_ ?_
      rotate_left
      · (intro w hSw; obtain ⟨⟨q0, q1, q2, q3, q4, q5, q6, q7, q8, q9, q10, q11⟩, _⟩ := hSw; go_simp; try with_reducible rfl)
      try simp only [nrm]
      refine wpAnyL_done (by kernel_rfl) ?_ _
      go_wp2_with fail
      go_meet
      exact ⟨P5, P11, rfl, rfl, Lib.hid ⟨hHeld.2, hl5, hl11, by first | exact hne | exact Ne.symm hne, h5, h11⟩⟩
    · have hr := HMK.out w8
      go_simp
      clear hr
      have hba : Below w8.heap.size w8 (w8.alloc (Obj.cells (tabA 1 d.m (fun _ _ => False)) 40)) := (Below.refl _ _).alloc (Nat.le_refl _) _
      have h11 : Tb (w8.alloc (Obj.cells (tabA 1 d.m (fun _ _ => False)) 40)) w8.heap.size 1 d.m (fun _ _ => False) := mt_heap_new _ _
      have hl11 := hHeld.2.size
      have hB9 := hHeld.2.trans (hba.mono hHeld.2.size)
      refine hK.out _ _ ⟨HSK.out _ hB9, hB9⟩ (fun hHeld => ?_)
      clear hK K hba hB9
      generalize w8.heap.size = P11 at *
      generalize w8.alloc (Obj.cells (tabA 1 d.m (fun _ _ => False)) 40) = w9 at *
      obtain ⟨w8, hw8⟩ : ∃ x, x = w9 := ⟨_, rfl⟩
      subst hw8
      try simp only [nrm]
      refine rdL 5 rfl (fun K hK => ?_)
      have hr := HMK.out w8
      go_simp
      clear hr
      have hba : Below w8.heap.size w8 (w8.alloc (Obj.cells (tabA 1 d.m (fun _ _ => False)) 40)) := (Below.refl _ _).alloc (Nat.le_refl _) _
      have h5 : Tb (w8.alloc (Obj.cells (tabA 1 d.m (fun _ _ => False)) 40)) w8.heap.size 1 d.m (fun _ _ => False) := mt_heap_new _ _
      have hl5 := hHeld.2.size
      have hne : P11 ≠ w8.heap.size := Nat.ne_of_lt h11.lt
      have h11 := h11.next hba
      have hB9 := hHeld.2.trans (hba.mono hHeld.2.size)
      refine hK.out _ _ ⟨HSK.out _ hB9, hB9⟩ (fun hHeld => ?_)
      clear hK K hba hB9
      generalize w8.heap.size = P5 at *
      generalize w8.alloc (Obj.cells (tabA 1 d.m (fun _ _ => False)) 40) = w9 at *
      obtain ⟨w8, hw8⟩ : ∃ x, x = w9 := ⟨_, rfl⟩
      subst hw8
      try simp only [nrm]
      refine tkL 12 (v := ?_) rfl ?_ ?_
      rotate_left
      · (intro w hSw; obtain ⟨⟨q0, q1, q2, q3, q4, q5, q6, q7, q8, q9, q10, q11⟩, _⟩ := hSw; go_simp; try with_reducible rfl)
      try simp only [nrm]
      refine tkL 13 (v := ?_) rfl ?_ ?_
      rotate_left
      · (intro w hSw; obtain ⟨⟨q0, q1, q2, q3, q4, q5, q6, q7, q8, q9, q10, q11⟩, _⟩ := hSw; go_simp; try with_reducible rfl)
      try simp only [nrm]
      refine wpAnyL_done (by kernel_rfl) ?_ _
      go_wp2_with fail
      go_meet
      exact ⟨P5, P11, rfl, rfl, Lib.hid ⟨hHeld.2, hl5, hl11, by first | exact hne | exact Ne.symm hne, h5, h11⟩⟩
  case rest =>
    obtain ⟨gn, gx, rfl, rfl, hF⟩ := hcut
    obtain ⟨hbw, hp, hq, hne, htn, htx⟩ := hF.out
    have HBW := Lib.hid hbw
    have HTN := Lib.hid htn
    have HTX := Lib.hid htx
    have hz2 := hbw.size
    have hnl := htn.lt
    have hxl := htx.lt
    clear hF hbw htn htx HMK
    have CR : Hid (∀ Z, Calls Tryz.prog 41 #[.agg #[.int .i64 (d.m : Int), .slice (some ⟨d.f, 0, none⟩) (4 * d.m) (4 * d.m)], .int .i64 (sp : Int)] Z fun e w' => e = .returned (.slice (some ⟨d.f, rwO 4 d.m sp, none⟩) d.m (4 * d.m - sp * d.m)) ∧ Below Z.heap.size Z w') := Lib.hid fun Z =>
      (mrow_any d.f 4 d.m sp (by omega) (by omega) (by omega) Z).mono fun e w' ⟨h1, h2⟩ => ⟨h1, by rw [h2]; exact (Below.refl _ _).alloc (Nat.le_refl _) _⟩
    have CJ : Hid (∀ Z, Below wc.heap.size wc Z → Calls Tryz.prog 40 #[.slice (some ⟨gn, 0, none⟩) d.m d.m, .slice (some ⟨d.f, rwO 4 d.m sp, none⟩) d.m (4 * d.m - sp * d.m)] Z fun e w' => e = .returned (.tuple #[]) ∧ Tb w' gn 1 d.m (fun r x => False ∨ (r = 0 ∧ Fst t 0 sp x)) ∧ Sm gn Z w') := Lib.hid fun Z hZ =>
      mjoin_any (i := 0) (HTN.out.next hZ) (((HPG.out.next HBW.out).f).next hZ) (by omega) (by omega) (by omega) (by omega) (fun _ => by omega) (fun h => rwO_eq (by omega) h) _ _
    have CSP0 := Lib.hid (CSP.out i (by omega))
    rw [hspe] at CSP0
    have CSR0 := Lib.hid (CSR.out i ⟨hfi, hi⟩)
    have HSPE := Lib.hid (And.intro hspe hsp)
    have HH := HSK.out _ (HBW.out.trans ((drew_below wc).mono HBW.out.size))
    clear hspe hsp
    go_upto_region 3 with fail
    refine wp_region_L (st := []) (S := fun Z => Z.cell? ⟨w.heap.size, 0, none⟩ = some (.pointer (some ⟨d.p, 0, none⟩)) ∧ Z.cell? ⟨w.heap.size, 1, none⟩ = some (.int .i64 (fr : Int)) ∧ Z.cell? ⟨w.heap.size, 2, none⟩ = some (.int .i64 (s.size : Int)) ∧ Z.cell? ⟨w.heap.size, 3, none⟩ = some (.int .i64 (d.m : Int)) ∧ Z.cell? ⟨w.heap.size, 4, none⟩ = some (.slice (some ⟨g, 0, none⟩) (R * d.m) (R * d.m)) ∧ Z.cell? ⟨d.p, 0, none⟩ = some (.int .i64 (d.m : Int)) ∧ Z.cell? ⟨d.p, 5, none⟩ = some (.int .i64 (d.m : Int)) ∧ Z.cell? ⟨d.p, 6, none⟩ = some (.slice (some ⟨d.h, 0, none⟩) (d.L * d.m) (d.L * d.m)) ∧ Z.cell? ⟨d.p, 11, none⟩ = some (.int .i64 (d.m : Int)) ∧ Z.cell? ⟨d.p, 12, none⟩ = some (.slice (some ⟨d.f, 0, none⟩) (4 * d.m) (4 * d.m)) ∧ Z.cell? ⟨d.p, 13, none⟩ = some (.int .i64 (d.m : Int)) ∧ Z.cell? ⟨d.p, 14, none⟩ = some (.slice (some ⟨d.l, 0, none⟩) (4 * d.m) (4 * d.m))) (by kernel_rfl) HH (fun hHeld => ?_)
    have HV8 := Lib.hid (drew_below wc)
    clear HH
    refine tkL 0 (v := ?_) rfl ?_ ?_
    rotate_left
    · (intro w hSw; obtain ⟨q0, q1, q2, q3, q4, q5, q6, q7, q8, q9, q10, q11⟩ := hSw; go_simp; try with_reducible rfl)
    try simp only [nrm]
    refine tkL 1 (v := ?_) rfl ?_ ?_
    rotate_left
    · (intro w hSw; obtain ⟨q0, q1, q2, q3, q4, q5, q6, q7, q8, q9, q10, q11⟩ := hSw; go_simp; try with_reducible rfl)
    try simp only [nrm]
    refine tkL 2 (v := ?_) rfl ?_ ?_
    rotate_left
    · (intro w hSw; obtain ⟨q0, q1, q2, q3, q4, q5, q6, q7, q8, q9, q10, q11⟩ := hSw; go_simp; try with_reducible rfl)
    try simp only [nrm]
    refine tkL 3 (v := ?_) rfl ?_ ?_
    rotate_left
    · (intro w hSw; obtain ⟨q0, q1, q2, q3, q4, q5, q6, q7, q8, q9, q10, q11⟩ := hSw; go_simp; try with_reducible rfl)
    try simp only [nrm]
    refine tkL 4 (v := ?_) rfl ?_ ?_
    rotate_left
    · (intro w hSw; obtain ⟨q0, q1, q2, q3, q4, q5, q6, q7, q8, q9, q10, q11⟩ := hSw; go_simp; try with_reducible rfl)
    try simp only [nrm]
    refine tkL 5 (v := ?_) rfl ?_ ?_
    rotate_left
    · (intro w hSw; obtain ⟨q0, q1, q2, q3, q4, q5, q6, q7, q8, q9, q10, q11⟩ := hSw; go_simp; try with_reducible rfl)
    try simp only [nrm]
    refine tkL 6 (v := ?_) rfl ?_ ?_
    rotate_left
    · (intro w hSw; obtain ⟨q0, q1, q2, q3, q4, q5, q6, q7, q8, q9, q10, q11⟩ := hSw; go_simp; try with_reducible rfl)
    try simp only [nrm]
    refine tkL 7 (v := ?_) rfl ?_ ?_
    rotate_left
    · (intro w hSw; obtain ⟨q0, q1, q2, q3, q4, q5, q6, q7, q8, q9, q10, q11⟩ := hSw; go_simp; try with_reducible rfl)
    try simp only [nrm]
    refine tkL 8 (v := ?_) rfl ?_ ?_
    rotate_left
    · (intro w hSw; obtain ⟨q0, q1, q2, q3, q4, q5, q6, q7, q8, q9, q10, q11⟩ := hSw; go_simp; try with_reducible rfl)
    try simp only [nrm]
    refine rdL 9 rfl (fun K hK => ?_)
    go_simp
    refine (CSP0.out _).mono ?_
    rintro e w9 ⟨rfl, hb9⟩
    have HV9 := Lib.hid (HV8.out.trans (hb9.mono HV8.out.size))
    have hH9 := HSK.out _ (HBW.out.trans (HV9.out.mono HBW.out.size))
    refine hK.out _ _ hH9 (fun hHeld => ?_)
    clear hK K hb9 HV8 hH9
    have HV8 := HV9
    clear HV9
    try simp only [nrm]
    refine rdL 10 rfl (fun K hK => ?_)
    go_simp
    refine (CR.out _).mono ?_
    rintro e w9 ⟨rfl, hb9⟩
    have HV9 := Lib.hid (HV8.out.trans (hb9.mono HV8.out.size))
    have hH9 := HSK.out _ (HBW.out.trans (HV9.out.mono HBW.out.size))
    refine hK.out _ _ hH9 (fun hHeld => ?_)
    clear hK K hb9 HV8 hH9
    have HV8 := HV9
    clear HV9
    try simp only [nrm]
    refine rdL 11 rfl (fun K hK => ?_)
    go_simp
    refine (CJ.out _ HV8.out).mono ?_
    rintro e w3 ⟨rfl, ht, hs9⟩
    have HT3 := Lib.hid ht
    have HB3 : Hid (Below W1.heap.size W1 w3) := Lib.hid ((HBW.out.trans (HV8.out.mono HBW.out.size)).trans (hs9.onl.below hp (by have := HBW.out.size; have := HV8.out.size; omega)))
    have HTX3 : Hid (Tb w3 gx 1 d.m (fun _ _ => False)) := Lib.hid ((HTX.out.next HV8.out).onl hs9.onl hne.symm)
    clear ht hs9
    refine hK.out _ _ (HSK.out _ HB3.out) (fun hHeld => ?_)
    clear hK K
    try simp only [nrm]
    refine wpAnyL_done (by kernel_rfl) ?_ _
    clear hHeld HV8 CR CJ CSP0 HTN HTX
    have hz3 := HB3.out.size
    obtain ⟨s0, s1, s2, s3, s4, _⟩ := HSK.out _ HB3.out
    go_wp2_with fail
    refine (CSR0.out _).mono ?_
    rintro e w4 ⟨rfl, hb4⟩
    clear s0 s1 s2 s3 s4
    unfold rwV
    have HT4 := Lib.hid (HT3.out.next hb4)
    have HTX4 := Lib.hid (HTX3.out.next hb4)
    have HB4 := Lib.hid (HB3.out.trans (hb4.mono HB3.out.size))
    have CK := Lib.hid (mkeep_any (i := 0) HT4.out (HRW.out.next HB4.out) (show gn ≠ g by omega) (by omega) hrl (by omega) (o := 0) (o2 := rwO R d.m (i - fr)) (fun _ => by omega) (fun h => rwO_eq hrl h) d.m (R * d.m - (i - fr) * d.m))
    clear hb4 HT3 HTX3 HB3 CSR0
    go_wp2_with fail
    refine CK.out.mono ?_
    rintro e w5 ⟨rfl, ht5, hs5⟩
    have HI5 : Hid (EndI s t i d.m W1 (i + 1) i gn gx w5) := Lib.hid ⟨ht5.congr fun r x hr hx => by
        obtain rfl : r = 0 := by omega
        rw [show i + 1 - 1 = i by omega, now_first, HSPE.out.1, hfii]
        simp, ⟨_, HTX4.out.onl hs5.onl hne.symm⟩, hne, hp, hq, HB4.out.trans (hs5.onl.below hp HB4.out.size), by omega, by omega, fun j hj _ => by omega, .inl rfl, by omega⟩
    have hi1 : (i : Int) ≤ 1000000 := by omega
    clear ht5 hs5 HT4 HTX4 HB4 CK hne hp hq hnl hxl HBW hz2 hz3
    go_wp2_with fail
    go_loopw [5, 6, 7, 8] (fun v5 v6 v7 v8 wr => ∃ (a e gn gx : Nat), v5 = .int .i64 (e : Int) ∧ v6 = .slice (some ⟨gn, 0, none⟩) d.m d.m ∧ v7 = .slice (some ⟨gx, 0, none⟩) d.m d.m ∧ v8 = .int .i64 (a : Int) ∧ Hid (EndI s t i d.m W1 a e gn gx wr)) (fun _ _ _ v8 _ => s.size + 2 - (intOf v8).toNat)
    case atStart => exact ⟨i + 1, i, gn, gx, rfl, rfl, rfl, by simp, HI5⟩
    case round =>
      clear HI5
      obtain ⟨a, e, gn, gx, rfl, rfl, rfl, rfl, HI⟩ := hrel
      have CNn := Lib.hid (mnone_any (i := 0) HI.out.tn (by omega) (by omega) (o := 0) (fun _ => by omega) d.m)
      have hia := HI.out.ia
      have han := HI.out.an
      have hai : (a : Int) ≤ 1000001 := by omega
      obtain ⟨W5, hW5⟩ : ∃ x, x = wr := ⟨_, rfl⟩
      subst hW5
      go_wp2_with fail
      refine CNn.out.mono ?_
      rintro ee w6 ⟨b, rfl, hb, rfl⟩
      have HBN := Lib.hid hb
      clear hb CNn
      cases b with
      | true =>
        have HFIN : Hid (EndPost s t i w (.returned (.int .i64 (e : Int))) w6) := Lib.hid (by
          have hnn := now_none (s := s) (t := t) (i := i) (k := a - 1) (by omega) (fun x hx => HBN.out.1 rfl x (HNL.out _ _ hx).1 hx)
          refine ⟨e, rfl, fun j hj => ?_, HI.out.e2, HI.out.e3.1, HB1.out.trans (HI.out.below.mono (by omega))⟩
          by_cases hja : j < a
          · exact HI.out.e1 j hja hj
          · exact (hnn j (by omega) hj).elim)
        clear HI HBN
        go_wp2_with fail
        go_ret
        exact HFIN.out
      | false =>
        obtain ⟨x, hx⟩ : ∃ x, NowS s t i (a - 1) x := by
          apply Classical.byContradiction
          intro hno
          have := HBN.out.2 (fun x _ hx => hno ⟨x, hx⟩)
          cases this
        have haN : a ≤ s.size := by have := (HNL.out _ _ hx).2.2; omega
        clear hx x HBN
        have hsp2 := spotN_lt a s.size
        obtain ⟨sp2, hspe2⟩ : ∃ sp2, spotN a s.size = sp2 := ⟨_, rfl⟩
        rw [hspe2] at hsp2
        have CR2 : Hid (∀ Z, Calls Tryz.prog 41 #[.agg #[.int .i64 (d.m : Int), .slice (some ⟨d.l, 0, none⟩) (4 * d.m) (4 * d.m)], .int .i64 (sp2 : Int)] Z fun e w' => e = .returned (.slice (some ⟨d.l, rwO 4 d.m sp2, none⟩) d.m (4 * d.m - sp2 * d.m)) ∧ Below Z.heap.size Z w') := Lib.hid fun Z =>
          (mrow_any d.l 4 d.m sp2 hsp2 (by omega) (by omega) Z).mono fun e w' ⟨h1, h2⟩ => ⟨h1, by rw [h2]; exact (Below.refl _ _).alloc (Nat.le_refl _) _⟩
        have CM2 : Hid (∀ Z, Below w6.heap.size w6 Z → Calls Tryz.prog 80 #[.slice (some ⟨gn, 0, none⟩) d.m d.m, .slice (some ⟨d.l, rwO 4 d.m sp2, none⟩) d.m (4 * d.m - sp2 * d.m)] Z (BoolPost (∃ x, x < 64 * d.m ∧ NowS s t i (a - 1) x ∧ Lst t 0 sp2 x) Z)) := Lib.hid fun Z hZ =>
          mmeet_any (i := 0) (HI.out.tn.next hZ) (((HPG.out.next HI.out.below).l).next hZ) (by omega) hsp2 (by omega) (o := 0) (fun _ => by omega) (fun h => rwO_eq hsp2 h) _ _
        have CSP2 := Lib.hid (CSP.out a (by omega))
        rw [hspe2] at CSP2
        have HMET : Hid ((∃ x, x < 64 * d.m ∧ NowS s t i (a - 1) x ∧ Lst t 0 sp2 x) ↔ Met s t i a) := Lib.hid (by
          have := now_end (s := s) (t := t) (i := i) (k := a - 1) (by omega)
          rw [show a - 1 + 1 = a by omega, hspe2] at this
          rw [← this]
          exact ⟨fun ⟨x, _, h⟩ => ⟨x, h⟩, fun ⟨x, h⟩ => ⟨x, (HNL.out _ _ h.1).1, h⟩⟩)
        have HSP2 := Lib.hid (And.intro hspe2 hsp2)
        have HH := HSK.out _ (HI.out.below.trans ((drew_below w6).mono HI.out.below.size))
        clear hspe2 hsp2
        go_upto_region 8 with fail
        refine wp_region_L (st := []) (S := fun Z => Z.cell? ⟨w.heap.size, 0, none⟩ = some (.pointer (some ⟨d.p, 0, none⟩)) ∧ Z.cell? ⟨w.heap.size, 1, none⟩ = some (.int .i64 (fr : Int)) ∧ Z.cell? ⟨w.heap.size, 2, none⟩ = some (.int .i64 (s.size : Int)) ∧ Z.cell? ⟨w.heap.size, 3, none⟩ = some (.int .i64 (d.m : Int)) ∧ Z.cell? ⟨w.heap.size, 4, none⟩ = some (.slice (some ⟨g, 0, none⟩) (R * d.m) (R * d.m)) ∧ Z.cell? ⟨d.p, 0, none⟩ = some (.int .i64 (d.m : Int)) ∧ Z.cell? ⟨d.p, 5, none⟩ = some (.int .i64 (d.m : Int)) ∧ Z.cell? ⟨d.p, 6, none⟩ = some (.slice (some ⟨d.h, 0, none⟩) (d.L * d.m) (d.L * d.m)) ∧ Z.cell? ⟨d.p, 11, none⟩ = some (.int .i64 (d.m : Int)) ∧ Z.cell? ⟨d.p, 12, none⟩ = some (.slice (some ⟨d.f, 0, none⟩) (4 * d.m) (4 * d.m)) ∧ Z.cell? ⟨d.p, 13, none⟩ = some (.int .i64 (d.m : Int)) ∧ Z.cell? ⟨d.p, 14, none⟩ = some (.slice (some ⟨d.l, 0, none⟩) (4 * d.m) (4 * d.m))) (by kernel_rfl) HH (fun hHeld => ?_)
        have HV8 := Lib.hid (drew_below w6)
        clear HH
        refine tkL 0 (v := ?_) rfl ?_ ?_
        rotate_left
        · (intro w hSw; obtain ⟨q0, q1, q2, q3, q4, q5, q6, q7, q8, q9, q10, q11⟩ := hSw; go_simp; try with_reducible rfl)
        try simp only [nrm]
        refine tkL 1 (v := ?_) rfl ?_ ?_
        rotate_left
        · (intro w hSw; obtain ⟨q0, q1, q2, q3, q4, q5, q6, q7, q8, q9, q10, q11⟩ := hSw; go_simp; try with_reducible rfl)
        try simp only [nrm]
        refine tkL 2 (v := ?_) rfl ?_ ?_
        rotate_left
        · (intro w hSw; obtain ⟨q0, q1, q2, q3, q4, q5, q6, q7, q8, q9, q10, q11⟩ := hSw; go_simp; try with_reducible rfl)
        try simp only [nrm]
        refine tkL 3 (v := ?_) rfl ?_ ?_
        rotate_left
        · (intro w hSw; obtain ⟨q0, q1, q2, q3, q4, q5, q6, q7, q8, q9, q10, q11⟩ := hSw; go_simp; try with_reducible rfl)
        try simp only [nrm]
        refine tkL 4 (v := ?_) rfl ?_ ?_
        rotate_left
        · (intro w hSw; obtain ⟨q0, q1, q2, q3, q4, q5, q6, q7, q8, q9, q10, q11⟩ := hSw; go_simp; try with_reducible rfl)
        try simp only [nrm]
        refine tkL 5 (v := ?_) rfl ?_ ?_
        rotate_left
        · (intro w hSw; obtain ⟨q0, q1, q2, q3, q4, q5, q6, q7, q8, q9, q10, q11⟩ := hSw; go_simp; try with_reducible rfl)
        try simp only [nrm]
        refine tkL 6 (v := ?_) rfl ?_ ?_
        rotate_left
        · (intro w hSw; obtain ⟨q0, q1, q2, q3, q4, q5, q6, q7, q8, q9, q10, q11⟩ := hSw; go_simp; try with_reducible rfl)
        try simp only [nrm]
        refine tkL 7 (v := ?_) rfl ?_ ?_
        rotate_left
        · (intro w hSw; obtain ⟨q0, q1, q2, q3, q4, q5, q6, q7, q8, q9, q10, q11⟩ := hSw; go_simp; try with_reducible rfl)
        try simp only [nrm]
        refine tkL 8 (v := ?_) rfl ?_ ?_
        rotate_left
        · (intro w hSw; obtain ⟨q0, q1, q2, q3, q4, q5, q6, q7, q8, q9, q10, q11⟩ := hSw; go_simp; try with_reducible rfl)
        try simp only [nrm]
        refine rdL 9 rfl (fun K hK => ?_)
        go_simp
        refine (CSP2.out _).mono ?_
        rintro e w9 ⟨rfl, hb9⟩
        have HV9 := Lib.hid (HV8.out.trans (hb9.mono HV8.out.size))
        have hH9 := HSK.out _ (HI.out.below.trans (HV9.out.mono HI.out.below.size))
        refine hK.out _ _ hH9 (fun hHeld => ?_)
        clear hK K hb9 HV8 hH9
        have HV8 := HV9
        clear HV9
        try simp only [nrm]
        refine rdL 10 rfl (fun K hK => ?_)
        go_simp
        refine (CR2.out _).mono ?_
        rintro e w9 ⟨rfl, hb9⟩
        have HV9 := Lib.hid (HV8.out.trans (hb9.mono HV8.out.size))
        have hH9 := HSK.out _ (HI.out.below.trans (HV9.out.mono HI.out.below.size))
        refine hK.out _ _ hH9 (fun hHeld => ?_)
        clear hK K hb9 HV8 hH9
        have HV8 := HV9
        clear HV9
        try simp only [nrm]
        refine rdL 11 rfl (fun K hK => ?_)
        go_simp
        refine (CM2.out _ HV8.out).mono ?_
        rintro ee w7 ⟨b, rfl, hb, rfl⟩
        have HBM := Lib.hid hb
        clear hb
        refine hK.out _ _ (HSK.out _ (HI.out.below.trans (HV8.out.mono HI.out.below.size))) (fun hHeld => ?_)
        clear hK K
        try simp only [nrm]
        refine wpAnyL_done (by kernel_rfl) ?_ _
        clear hHeld CR2 CM2 CSP2
        have hB7 : Below W1.heap.size W1 w7 := HI.out.below.trans (HV8.out.mono HI.out.below.size)
        obtain ⟨P, hPx⟩ := HI.out.tx
        have hbx := HI.out.bx
        have hbn := HI.out.bn
        have hnex := HI.out.ne
        have hxl := hPx.lt
        obtain ⟨w8, hcl, htx8, ho8⟩ := run_mclear (c := d.m) 0 w7 (hPx.next HV8.out)
        have HTN8 := Lib.hid ((HI.out.tn.next HV8.out).onl ho8 hnex)
        have HTX8 := Lib.hid htx8
        have HB8 : Hid (Below W1.heap.size W1 w8) := Lib.hid (hB7.trans (ho8.below hbx hB7.size))
        have HEE : Hid (∃ e' : Nat, (.int .i64 (e' : Int) : Value) = (if b then .int .i64 (a : Int) else .int .i64 (e : Int)) ∧ (∀ j, j < a + 1 → Met s t i j → j ≤ e') ∧ (e' = i ∨ Met s t i e') ∧ i ≤ e' ∧ e' < a + 1) := Lib.hid (by
          cases b with
          | true =>
            refine ⟨a, rfl, fun j hj _ => by omega, .inr (HMET.out.1 (HBM.out.1 rfl)), by omega, by omega⟩
          | false =>
            refine ⟨e, rfl, fun j hj hm => ?_, HI.out.e2, HI.out.e3.1, by have := HI.out.e3.2; omega⟩
            by_cases hja : j < a
            · exact HI.out.e1 j hja hm
            · obtain rfl : j = a := by omega
              have := HBM.out.2 (HMET.out.2 hm)
              cases this)
        have CJR : Hid (Calls Tryz.prog 43 #[.slice (some ⟨gx, 0, none⟩) d.m d.m, .agg #[.int .i64 (d.m : Int), .slice (some ⟨d.h, 0, none⟩) (d.L * d.m) (d.L * d.m)], .slice (some ⟨gn, 0, none⟩) d.m d.m] w8 fun e w' => e = .returned (.tuple #[]) ∧ Tb w' gx 1 d.m (fun r x => False ∨ (r = 0 ∧ ∃ y, y < 64 * d.m ∧ NowS s t i (a - 1) y ∧ Bhd t 0 y x)) ∧ Onl gx w8 w') := Lib.hid
          (mrows_any HTX8.out (i := 0) (o := 0) (o3 := 0) (by omega) (fun _ => by omega) ((HPG.out.next HB8.out).bh) (by have := hlt; omega) hLm (by have := HLM.out.2.2; omega) (HPG.out.next HB8.out).dz (by omega)
            (fun x _ hx => (HNL.out _ _ hx).2.1) (fun W P' _ _ hk => (HTN8.out.kept (hk gn hnex HTN8.out.lt)).rw (i := 0) (by omega) (fun _ => by omega)) d.m d.m)
        have CSR2 := Lib.hid (CSR.out a ⟨by omega, haN⟩)
        have hral : a - fr < R := by omega
        have hfaa : fr + (a - fr) = a := by omega
        have HMZ := Lib.hid (show s.size + 2 - ((a : Int) + 1).toNat < s.size + 2 - ((a : Int)).toNat by omega)
        clear HI hPx htx8 ho8 HBM HMET hB7 HV8
        cases b
        all_goals
          simp only [if_true, if_false, Bool.false_eq_true] at HEE
          obtain ⟨s0, s1, s2, s3, s4, p0, p5, p6, _⟩ := HSK.out _ HB8.out
          go_wp2_with fail
          refine CJR.out.mono ?_
          rintro ee w9 ⟨rfl, ht9, ho9⟩
          have HTX9 := Lib.hid ht9
          have HTN9 := Lib.hid (HTN8.out.onl ho9 hnex)
          have HB9 : Hid (Below W1.heap.size W1 w9) := Lib.hid (HB8.out.trans (ho9.below hbx HB8.out.size))
          clear ht9 ho9 HTN8 HTX8 HB8 hcl s0 s1 s2 s3 s4 p0 p5 p6 CJR
          obtain ⟨s0, s1, s2, s3, s4, _⟩ := HSK.out _ HB9.out
          go_wp2_with fail
          refine (CSR2.out _).mono ?_
          rintro ee w10 ⟨rfl, hb10⟩
          unfold rwV
          have HTX10 := Lib.hid (HTX9.out.next hb10)
          have HTN10 := Lib.hid (HTN9.out.next hb10)
          have HB10 := Lib.hid (HB9.out.trans (hb10.mono HB9.out.size))
          have CK2 := Lib.hid (mkeep_any (i := 0) HTX10.out (HRW.out.next HB10.out) (show gx ≠ g by omega) (by omega) hral (by omega) (o := 0) (o2 := rwO R d.m (a - fr)) (fun _ => by omega) (fun h => rwO_eq hral h) d.m (R * d.m - (a - fr) * d.m))
          clear hb10 HTX9 HTN9 HB9 s0 s1 s2 s3 s4 CSR2
          go_wp2_with fail
          refine CK2.out.mono ?_
          rintro ee w11 ⟨rfl, ht11, hs11⟩
          obtain ⟨e', he, h1, h2, h3, h4⟩ := HEE.out
          have HI11 : Hid (EndI s t i d.m W1 (a + 1) e' gx gn w11) := Lib.hid ⟨ht11.congr fun r x hr hx => by
              obtain rfl : r = 0 := by omega
              have hnx := now_next (s := s) (t := t) (i := i) (k := a - 1) (x := x) (by omega)
              rw [show a - 1 + 1 = a by omega] at hnx
              rw [show a + 1 - 1 = a by omega, hnx, hfaa]
              constructor
              · rintro ⟨h | ⟨_, y, _, h5, h6⟩, h7⟩
                · exact h.elim
                · exact ⟨h7 rfl, y, h5, h6⟩
              · rintro ⟨h7, y, h5, h6⟩
                exact ⟨.inr ⟨rfl, y, (HNL.out _ _ h5).1, h5, h6⟩, fun _ => h7⟩, ⟨_, HTN10.out.onl hs11.onl hnex⟩, hnex.symm, hbx, hbn, HB10.out.trans (hs11.onl.below hbx HB10.out.size), by omega, by omega, h1, h2, h3, h4⟩
          clear ht11 hs11 HTX10 HTN10 HB10 CK2 HEE h1 h2 h3 h4
          have HE := Lib.hid he
          clear he
          go_wp2_with fail
          refine ⟨⟨a + 1, e', gx, gn, HE.out.symm, rfl, rfl, by simp, HI11⟩, ?_⟩
          simp [intOf]; omega
end Go.Proofs.YtmlpkimbcjkbkaaGreatDoor
