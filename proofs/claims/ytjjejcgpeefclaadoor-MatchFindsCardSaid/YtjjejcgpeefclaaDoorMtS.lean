/-
  MATHEMATICS of layer 10's search: the leaves whose rest is there; where a match begins, and where the longest one ends.
-/
import Derived.Test.YtjjejcgpeefclaaDoorMtC2
import Derived.Test.YtjjejcgpeefclaaDoorMtP3M
namespace Go.Proofs.YtjjejcgpeefclaaDoor
open Go.RowKit

/-- A program: its block, how many words and leaves, its tables' blocks. -/
structure Pd where
  p : Nat
  m : Nat
  L : Nat
  t : Nat
  a : Nat
  h : Nat
  f : Nat
  l : Nat
def Pd.cells (d : Pd) (E : Nat → Bool) : Array Value := #[.int .i64 (d.m : Int), .int .i64 (d.m : Int), .slice (some ⟨d.t, 0, none⟩) (256 * d.m) (256 * d.m), .int .i64 (d.m : Int), .slice (some ⟨d.a, 0, none⟩) (d.L * d.m) (d.L * d.m), .int .i64 (d.m : Int), .slice (some ⟨d.h, 0, none⟩) (d.L * d.m) (d.L * d.m),
  .bool (E 0), .bool (E 1), .bool (E 2), .bool (E 3), .int .i64 (d.m : Int), .slice (some ⟨d.f, 0, none⟩) (4 * d.m) (4 * d.m), .int .i64 (d.m : Int), .slice (some ⟨d.l, 0, none⟩) (4 * d.m) (4 * d.m)]
/-- A tree's program lies in memory. -/
structure Pg (w : World) (d : Pd) (t : RT) : Prop where
  prog : w.heap[d.p]? = some (.cells (d.cells (emp t)) 88 (0, 0))
  tk : Tb w d.t 256 d.m (fun c x => Tks hasP t 0 x c)
  ah : Tb w d.a d.L d.m (fun r x => Bhd t 0 x r)
  bh : Tb w d.h d.L d.m (fun r x => Bhd t 0 r x)
  f : Tb w d.f 4 d.m (Fst t 0)
  l : Tb w d.l 4 d.m (Lst t 0)
  dz : Dz w
  m : d.m ≤ 100
  L : d.L = leafN t
  Lm : d.L ≤ 64 * d.m
theorem Pg.kept {w w' : World} {d : Pd} {t : RT} (h : Pg w d t) (hk : ∀ k, k = d.p ∨ k = d.t ∨ k = d.a ∨ k = d.h ∨ k = d.f ∨ k = d.l ∨ k = (0 : Nat) → k < w.heap.size → w'.heap[k]? = w.heap[k]?) : Pg w' d t :=
  ⟨(hk _ (.inl rfl) (Array.getElem?_eq_some_iff.1 h.prog).1).trans h.prog, h.tk.kept (hk _ (.inr (.inl rfl)) h.tk.lt), h.ah.kept (hk _ (.inr (.inr (.inl rfl))) h.ah.lt), h.bh.kept (hk _ (.inr (.inr (.inr (.inl rfl)))) h.bh.lt),
    h.f.kept (hk _ (.inr (.inr (.inr (.inr (.inl rfl))))) h.f.lt), h.l.kept (hk _ (.inr (.inr (.inr (.inr (.inr (.inl rfl)))))) h.l.lt), h.dz.kept (hk _ (.inr (.inr (.inr (.inr (.inr (.inr rfl)))))) h.dz.lt), h.m, h.L, h.Lm⟩
theorem Pg.next {w w' : World} {d : Pd} {t : RT} (h : Pg w d t) (hb : Below w.heap.size w w') : Pg w' d t := h.kept fun k _ hl => hb.block k hl
def CompPost (w : World) (t : RT) (e : Ending) (w' : World) : Prop := ∃ d : Pd, e = .returned (.tuple #[.pointer (some ⟨d.p, 0, none⟩), .int .i64 0]) ∧ Pg w' d t ∧ Below w.heap.size w w'
set_option maxHeartbeats 8000000 in
set_option maxRecDepth 100000 in
theorem mcomp_any (t : RT) (hf : t.Fine) (hz : sizeN t ≤ 2000) {w : World} {nd : Nd} {K : Nat → Prop} (htr : TreeN w K t nd) (hdz : Dz w) :
    Calls Tryd.prog 21 #[nd.val] w (CompPost w t) := by
  obtain ⟨nop, nst, kp, kn, kc⟩ := nd
  have hlf := leaf_le_size t
  obtain ⟨W1, hW1⟩ : ∃ W1, (w.alloc (.cells #[.int .i64 nop, .int .u64 nst.a, .int .u64 nst.b, .int .u64 nst.c, .int .u64 nst.d, .slice kp kn kc] 50)).alloc (.cells #[.int .i64 0, .int .i64 0] 77) = W1 := ⟨_, rfl⟩
  have hb1 : Below w.heap.size w W1 := by rw [← hW1]; exact ((Below.refl _ _).alloc (Nat.le_refl _) _).alloc (by simp) _
  have hz1 : W1.heap.size = w.heap.size + 2 := by rw [← hW1]; simp
  have hx0 : W1.heap[w.heap.size]? = some (.cells #[.int .i64 nop, .int .u64 nst.a, .int .u64 nst.b, .int .u64 nst.c, .int .u64 nst.d, .slice kp kn kc] 50 (0, 0)) := by rw [← hW1]; exact (Below.heap_alloc _ _ _ (by simp)).trans (mt_heap_new _ _)
  have ht1 : Tl W1 (w.heap.size + 1) 0 0 := by
    rw [← hW1]
    have := mt_heap_new (w.alloc (.cells #[.int .i64 nop, .int .u64 nst.a, .int .u64 nst.b, .int .u64 nst.c, .int .u64 nst.d, .slice kp kn kc] 50)) (.cells #[.int .i64 0, .int .i64 0] 77)
    rw [World.size_alloc] at this
    exact this
  have htr1 : TreeN W1 (fun g => K g ∧ g < w.heap.size) t ⟨nop, nst, kp, kn, kc⟩ := htr.kept (fun g _ hl => hb1.block g hl) (fun g hg hl => ⟨hg, hl⟩)
  have CC := Lib.hid (mcount_any t hf W1 (w.heap.size + 1) 0 0 _ _ ht1 htr1 (fun g hg _ => by omega) (by omega) (by omega))
  rw [Nat.zero_add, Nat.zero_add] at CC
  unfold Nd.val at CC ⊢
  have x0 : W1.cell? ⟨w.heap.size, 0, none⟩ = some (.int .i64 nop) := rg_cell hx0
  have x1 : W1.cell? ⟨w.heap.size, 1, none⟩ = some (.int .u64 nst.a) := rg_cell hx0
  have x2 : W1.cell? ⟨w.heap.size, 2, none⟩ = some (.int .u64 nst.b) := rg_cell hx0
  have x3 : W1.cell? ⟨w.heap.size, 3, none⟩ = some (.int .u64 nst.c) := rg_cell hx0
  have x4 : W1.cell? ⟨w.heap.size, 4, none⟩ = some (.int .u64 nst.d) := rg_cell hx0
  have x5 : W1.cell? ⟨w.heap.size, 5, none⟩ = some (.slice kp kn kc) := rg_cell hx0
  have HX0 := Lib.hid hx0
  have HB1 := Lib.hid hb1
  have HW1 := Lib.hid hW1
  have HTR := Lib.hid htr1
  have HDZ := Lib.hid (hdz.next hb1)
  have HF := Lib.hid hf
  clear hx0 hb1 hW1 htr htr1 ht1 hdz hf
  simp only at CC ⊢
  go_enter Tryd.func21, Tryd.ntmps21
  go_upto_region 2 with fail
  rw [HW1.out]
  clear HW1
  go_wp2_with fail
  refine CC.out.mono ?_
  rintro e w2 ⟨rfl, ht2, ho2⟩
  have hz2 := ho2.size
  have hn0 : ¬ (2000 : Int) < ((sizeN t : Nat) : Int) := by omega
  have c0 : w2.cell? ⟨w.heap.size + 1, 0, none⟩ = some (.int .i64 ((sizeN t : Nat) : Int)) := rg_cell ht2
  have c1 : w2.cell? ⟨w.heap.size + 1, 1, none⟩ = some (.int .i64 ((leafN t : Nat) : Int)) := rg_cell ht2
  have hx2 := (ho2.block w.heap.size (by omega) (by omega)).trans HX0.out
  have hglob := HDZ.out.lt
  have hgn : (0 : Nat) ≠ w.heap.size + 1 := fun e => by
    have := HDZ.out 0 (by decide)
    have h2 := dz_ne HDZ.out HX0.out
    omega
  have hdz2 : Dz w2 := HDZ.out.kept (ho2.block _ hglob hgn)
  have CB := Lib.hid (mnb_any (leafN t) (by omega) w2 hdz2)
  have HX2 := Lib.hid hx2
  have HTR2 : Hid (TreeN w2 (fun g => K g ∧ g < w.heap.size) t ⟨nop, nst, kp, kn, kc⟩) := Lib.hid (HTR.out.kept (fun g hg hl => ho2.block g hl (by omega)) (fun g hg _ => hg))
  have HB2 : Hid (Below w.heap.size w w2) := Lib.hid (HB1.out.trans (ho2.below (by omega) (by omega)))
  clear x0 x1 x2 x3 x4 x5 hx2 ho2 ht2 hdz2 HDZ HX0 HTR HB1 CC
  obtain ⟨sz, hsz⟩ : ∃ sz, sizeN t = sz := ⟨_, rfl⟩
  obtain ⟨L, hL⟩ : ∃ L, leafN t = L := ⟨_, rfl⟩
  rw [hsz] at hn0 c0
  rw [hL] at c1 CB
  have HSL := Lib.hid (And.intro hsz hL)
  clear hsz hL
  go_wp2_with fail
  refine CB.out.mono ?_
  rintro e w3 ⟨d, rfl, hbl3, hok, hdL, hnew, hb3⟩
  have hz3 := hb3.size
  have HX3 := Lib.hid ((hb3.block _ (by omega)).trans HX2.out)
  have HTR3 : Hid (TreeN w3 (fun g => K g ∧ g < w.heap.size) t ⟨nop, nst, kp, kn, kc⟩) := Lib.hid (HTR2.out.kept (fun g hg hl => hb3.block g hl) (fun g hg _ => hg))
  have HB3 := Lib.hid (HB2.out.trans (hb3.mono HB2.out.size))
  have HBL3 := Lib.hid hbl3
  have HOK := Lib.hid hok
  have HNW := Lib.hid hnew
  have HDL := Lib.hid hdL
  have hz2b := HB2.out.size
  have hnd : w2.heap.size ≤ d.p ∧ w2.heap.size ≤ d.b ∧ w2.heap.size ≤ d.t ∧ w2.heap.size ≤ d.a ∧ w2.heap.size ≤ d.h := ⟨hnew _ (.inl rfl), hnew _ (.inr (.inl rfl)), hnew _ (.inr (.inr (.inl rfl))), hnew _ (.inr (.inr (.inr (.inl rfl)))), hnew _ (.inr (.inr (.inr (.inr rfl))))⟩
  clear hb3 hbl3 hok hnew hdL HX2 HTR2 HB2 CB c0 c1 hn0 hgn hglob
  have CP : Hid (∀ Z, Below w3.heap.size w3 Z → Calls Tryd.prog 33 #[.pointer (some ⟨d.b, 0, none⟩), .agg #[.int .i64 nop, .int .u64 nst.a, .int .u64 nst.b, .int .u64 nst.c, .int .u64 nst.d, .slice kp kn kc]] Z (PcPost Z d (0 + leafN t) (fun c x => False ∨ Tks hasP t 0 x c) (fun r x => False ∨ Bhd t 0 r x) (emp t) (Fst t 0) (Lst t 0))) := Lib.hid fun Z hZ =>
    mpiece_any t (HF.out.few t (by have := HSL.out.1; omega)) Z d 0 (fun _ _ => False) (fun _ _ => False) ⟨nop, nst, kp, kn, kc⟩ (fun g => K g ∧ g < w.heap.size) HOK.out (HBL3.out.next hZ) (HTR3.out.kept (fun g _ hl => hZ.block g hl) (fun g hg _ => hg)) (fun g hg _ => ⟨fun hc => by rcases hc with rfl | rfl | rfl | rfl <;> omega, fun e => by omega⟩) (HF.out.ok t) (by rw [HDL.out, HSL.out.2]; omega)
  have HH : w3.drew.cell? ⟨d.b, 0, none⟩ = some (.pointer (some ⟨d.p, 0, none⟩)) ∧ w3.drew.cell? ⟨w.heap.size, 0, none⟩ = some (.int .i64 nop) ∧ w3.drew.cell? ⟨w.heap.size, 1, none⟩ = some (.int .u64 nst.a) ∧ w3.drew.cell? ⟨w.heap.size, 2, none⟩ = some (.int .u64 nst.b) ∧ w3.drew.cell? ⟨w.heap.size, 3, none⟩ = some (.int .u64 nst.c) ∧ w3.drew.cell? ⟨w.heap.size, 4, none⟩ = some (.int .u64 nst.d) ∧ w3.drew.cell? ⟨w.heap.size, 5, none⟩ = some (.slice kp kn kc) := by
    have e1 := ((drew_below w3).block _ HBL3.out.lt.1).trans HBL3.out.blk
    have e2 := ((drew_below w3).block _ (by omega)).trans HX3.out
    exact ⟨rg_cell e1, rg_cell e2, rg_cell e2, rg_cell e2, rg_cell e2, rg_cell e2, rg_cell e2⟩
  go_wp2_with fail
  refine wp_region_L (st := [9]) (S := fun Z => Z.cell? ⟨d.b, 0, none⟩ = some (.pointer (some ⟨d.p, 0, none⟩)) ∧ Z.cell? ⟨w.heap.size, 0, none⟩ = some (.int .i64 nop) ∧ Z.cell? ⟨w.heap.size, 1, none⟩ = some (.int .u64 nst.a) ∧ Z.cell? ⟨w.heap.size, 2, none⟩ = some (.int .u64 nst.b) ∧ Z.cell? ⟨w.heap.size, 3, none⟩ = some (.int .u64 nst.c) ∧ Z.cell? ⟨w.heap.size, 4, none⟩ = some (.int .u64 nst.d) ∧ Z.cell? ⟨w.heap.size, 5, none⟩ = some (.slice kp kn kc)) (by kernel_rfl) HH (fun hHeld => ?_)
  clear HH
  refine tkL 0 (v := ?_) rfl ?_ ?_
  rotate_left
  · (intro w hSw; obtain ⟨q0, q1, q2, q3, q4, q5, q6⟩ := hSw; go_simp; try with_reducible rfl)
  try simp only [nrm]
  refine tkL 1 (v := ?_) rfl ?_ ?_
  rotate_left
  · (intro w hSw; obtain ⟨q0, q1, q2, q3, q4, q5, q6⟩ := hSw; go_simp; try with_reducible rfl)
  try simp only [nrm]
  refine tkL 2 (v := ?_) rfl ?_ ?_
  rotate_left
  · (intro w hSw; obtain ⟨q0, q1, q2, q3, q4, q5, q6⟩ := hSw; go_simp; try with_reducible rfl)
  try simp only [nrm]
  refine tkL 3 (v := ?_) rfl ?_ ?_
  rotate_left
  · (intro w hSw; obtain ⟨q0, q1, q2, q3, q4, q5, q6⟩ := hSw; go_simp; try with_reducible rfl)
  try simp only [nrm]
  refine tkL 4 (v := ?_) rfl ?_ ?_
  rotate_left
  · (intro w hSw; obtain ⟨q0, q1, q2, q3, q4, q5, q6⟩ := hSw; go_simp; try with_reducible rfl)
  try simp only [nrm]
  refine tkL 5 (v := ?_) rfl ?_ ?_
  rotate_left
  · (intro w hSw; obtain ⟨q0, q1, q2, q3, q4, q5, q6⟩ := hSw; go_simp; try with_reducible rfl)
  try simp only [nrm]
  refine rdL 6 rfl (fun K hK => ?_)
  go_simp
  refine (CP.out _ (drew_below w3)).mono ?_
  rintro e w7 ⟨gf, gl, rfl, hpc, hbl, hch⟩
  have hz7 := hch.size
  have hne7 : ∀ k, w3.heap.size ≤ k → True := fun _ _ => trivial
  have hpr := hbl.prog
  have hxx := (hch.block w.heap.size (by show w.heap.size < w3.heap.size; omega) (fun hc => by rcases hc with h | h | h | h <;> omega)).trans (show w3.drew.heap[w.heap.size]? = _ from HX3.out)
  have hbb := hbl.blk
  have hH7 : w7.cell? ⟨d.b, 0, none⟩ = some (.pointer (some ⟨d.p, 0, none⟩)) ∧ w7.cell? ⟨w.heap.size, 0, none⟩ = some (.int .i64 nop) ∧ w7.cell? ⟨w.heap.size, 1, none⟩ = some (.int .u64 nst.a) ∧ w7.cell? ⟨w.heap.size, 2, none⟩ = some (.int .u64 nst.b) ∧ w7.cell? ⟨w.heap.size, 3, none⟩ = some (.int .u64 nst.c) ∧ w7.cell? ⟨w.heap.size, 4, none⟩ = some (.int .u64 nst.d) ∧ w7.cell? ⟨w.heap.size, 5, none⟩ = some (.slice kp kn kc) := ⟨rg_cell hbb, rg_cell hxx, rg_cell hxx, rg_cell hxx, rg_cell hxx, rg_cell hxx, rg_cell hxx⟩
  refine hK.out _ _ hH7 (fun hHeld => ?_)
  have HPC := Lib.hid hpc
  have HBL := Lib.hid hbl
  have HCH := Lib.hid hch
  clear hK K hpc hbl hch hH7 hne7 hbb hxx
  unfold pcV
  try simp only [nrm]
  refine tkL 7 (v := ?_) rfl ?_ ?_
  rotate_left
  · (intro w hSw; obtain ⟨q0, q1, q2, q3, q4, q5, q6⟩ := hSw; go_simp; try with_reducible rfl)
  try simp only [nrm]
  refine tkL 8 (v := ?_) rfl ?_ ?_
  rotate_left
  · (intro w hSw; obtain ⟨q0, q1, q2, q3, q4, q5, q6⟩ := hSw; go_simp; try with_reducible rfl)
  try simp only [nrm]
  have p7 : w7.cell? ⟨d.p, 7, none⟩ = some (.bool false) := rg_cell hpr
  have f7 : w7.frozen? ⟨d.p, 7, none⟩ = false := rg_frozen hpr
  have p8 : w7.cell? ⟨d.p, 8, none⟩ = some (.bool false) := rg_cell hpr
  have f8 : w7.frozen? ⟨d.p, 8, none⟩ = false := rg_frozen hpr
  have p9 : w7.cell? ⟨d.p, 9, none⟩ = some (.bool false) := rg_cell hpr
  have f9 : w7.frozen? ⟨d.p, 9, none⟩ = false := rg_frozen hpr
  have p10 : w7.cell? ⟨d.p, 10, none⟩ = some (.bool false) := rg_cell hpr
  have f10 : w7.frozen? ⟨d.p, 10, none⟩ = false := rg_frozen hpr
  have p11 : w7.cell? ⟨d.p, 11, none⟩ = some (.int .i64 0) := rg_cell hpr
  have f11 : w7.frozen? ⟨d.p, 11, none⟩ = false := rg_frozen hpr
  have p12 : w7.cell? ⟨d.p, 12, none⟩ = some (.slice none 0 0) := rg_cell hpr
  have f12 : w7.frozen? ⟨d.p, 12, none⟩ = false := rg_frozen hpr
  have p13 : w7.cell? ⟨d.p, 13, none⟩ = some (.int .i64 0) := rg_cell hpr
  have f13 : w7.frozen? ⟨d.p, 13, none⟩ = false := rg_frozen hpr
  have p14 : w7.cell? ⟨d.p, 14, none⟩ = some (.slice none 0 0) := rg_cell hpr
  have f14 : w7.frozen? ⟨d.p, 14, none⟩ = false := rg_frozen hpr
  obtain ⟨W9, hW9⟩ : ∃ W9, ((((((((w7.setCell ⟨d.p, 7, none⟩ (.bool (emp t 0))).setCell ⟨d.p, 8, none⟩ (.bool (emp t 1))).setCell ⟨d.p, 9, none⟩ (.bool (emp t 2))).setCell ⟨d.p, 10, none⟩ (.bool (emp t 3))).setCell ⟨d.p, 11, none⟩ (.int .i64 (d.m : Int))).setCell ⟨d.p, 12, none⟩ (.slice (some ⟨gf, 0, none⟩) (4 * d.m) (4 * d.m))).setCell ⟨d.p, 13, none⟩ (.int .i64 (d.m : Int))).setCell ⟨d.p, 14, none⟩ (.slice (some ⟨gl, 0, none⟩) (4 * d.m) (4 * d.m))) = W9 := ⟨_, rfl⟩
  have ho9 : Onl d.p w7 W9 := by rw [← hW9]; exact ((((((((Onl.refl _ _).setCell _ _).setCell _ _).setCell _ _).setCell _ _).setCell _ _).setCell _ _).setCell _ _).setCell _ _
  have hp9 : W9.heap[d.p]? = some (.cells (Pd.cells ⟨d.p, d.m, d.L, d.t, d.a, d.h, gf, gl⟩ (emp t)) 88 (0, 0)) := by
    rw [← hW9]
    obtain ⟨n4, hn4⟩ : ∃ n4, 4 * d.m = n4 := ⟨_, rfl⟩
    unfold Bd.prog at hpr
    unfold Pd.cells
    simp only [hn4]
    have h1 := rg_setCell (i := 14) (rg_setCell (i := 13) (rg_setCell (i := 12) (rg_setCell (i := 11) (rg_setCell (i := 10) (rg_setCell (i := 9) (rg_setCell (i := 8) (rg_setCell (i := 7) hpr (.bool (emp t 0))) (.bool (emp t 1))) (.bool (emp t 2))) (.bool (emp t 3))) (.int .i64 (d.m : Int))) (.slice (some ⟨gf, 0, none⟩) n4 n4)) (.int .i64 (d.m : Int))) (.slice (some ⟨gl, 0, none⟩) n4 n4)
    simp only [List.setIfInBounds_toArray, List.set_cons_zero, List.set_cons_succ] at h1
    exact h1
  have HO9 := Lib.hid ho9
  have HP9 := Lib.hid hp9
  have HW9 := Lib.hid hW9
  have b0 : W9.cell? ⟨d.b, 0, none⟩ = some (.pointer (some ⟨d.p, 0, none⟩)) := rg_cell ((ho9.block _ HBL.out.lt.1 HOK.out.bp).trans HBL.out.blk)
  clear ho9 hp9 hW9 hpr
  refine wpAnyL_ready (rs := [9]) (by kernel_rfl) (by simp) ?_
  refine AllReadyL.store (o := _) rfl (by decide) (by decide) (fun K hK => ?_) AllReadyL.nil
  go_simp
  refine hK.out _ _ ?_
  clear hK K
  try simp only [nrm]
  refine wpAnyL_done (by kernel_rfl) ?_ _
  rw [HW9.out]
  clear HW9
  go_wp2_with fail
  go_ret2
  have hpf := HPC.out.f
  have hpl := HPC.out.l
  have hbf := HPC.out.bf
  have hbl := HPC.out.bl
  have hsz3 : w3.drew.heap.size = w3.heap.size := rfl
  have hl := HBL3.out.lt
  refine ⟨⟨d.p, d.m, d.L, d.t, d.a, d.h, gf, gl⟩, rfl, ⟨HP9.out, (HBL.out.tk.onl HO9.out HOK.out.pt.symm).congr (fun c x _ _ => by simp), (HBL.out.ah.onl HO9.out HOK.out.pa.symm).congr (fun c x _ _ => by simp), (HBL.out.bh.onl HO9.out HOK.out.ph.symm).congr (fun c x _ _ => by simp), hpf.onl HO9.out (by show gf ≠ d.p; omega), hpl.onl HO9.out (by show gl ≠ d.p; omega), HBL.out.dz.kept (HO9.out.block _ HBL.out.dz.lt (by have := dz_ne HBL.out.dz HBL.out.prog (by unfold Bd.prog; simp); exact this.symm)), HOK.out.m, HDL.out.trans HSL.out.2.symm, HOK.out.L⟩, ?_⟩
  have hB9 : Below w.heap.size w3 W9 := by
    have h1 : Below w.heap.size w3 w7 := (Below.mono (drew_below w3) (by omega)).trans (HCH.out.below (by omega) (fun k hc => by rcases hc with rfl | rfl | rfl | rfl <;> omega))
    exact h1.trans (HO9.out.below (by omega) (by omega))
  exact HB3.out.trans hB9
end Go.Proofs.YtjjejcgpeefclaaDoor

namespace Go.Proofs.YtjjejcgpeefclaaDoor
open Go.RowKit

/-- What Of answers. -/
def OfPost (s : ByteArray) (w : World) (e : Ending) (w' : World) : Prop :=
  Below w.heap.size w w' ∧ ((∃ t r d, topR withW notW orW s.data.toList = .ok (t, r) ∧ e = .returned (.tuple #[.pointer (some ⟨d.p, 0, none⟩), .int .i64 0, .int .i64 0]) ∧ Pg w' d t) ∨
    (∃ n k, topR withW notW orW s.data.toList = .error (n, k) ∧ (k = 9 ∨ k = 14) ∧ n ≤ s.size ∧ e = .returned (.tuple #[.pointer none, .int .i64 ((s.size - n : Nat) : Int), .int .i64 (k : Int)])))
set_option maxHeartbeats 4000000 in
set_option maxRecDepth 100000 in
theorem mof_any (s : ByteArray) (hs : s.size ≤ 300) (w : World) (hdz : Dz w) : Calls Tryd.prog 12 #[.string s] w (OfPost s w) := by
  have CP := Lib.hid (rparse_any s w hs)
  have HDZ := Lib.hid hdz
  clear hdz
  go_enter Tryd.func12, Tryd.ntmps12
  go_wp2_with fail
  refine CP.out.mono ?_
  rintro e w2 ⟨hb2, (⟨t, r, nd, ht, rfl, htr⟩ | ⟨n, k, ht, hk, hn, rfl⟩)⟩
  · obtain ⟨nop, nst, kp, kn, kc⟩ := nd
    have hz2 := hb2.size
    have hfine := top_fine ht
    have hlen : s.data.toList.length = s.size := by simp
    have HTT := Lib.hid ht
    have HB2 := Lib.hid hb2
    have HDZ2 := Lib.hid (HDZ.out.next hb2)
    obtain ⟨W3, hW3⟩ : ∃ W3, w2.alloc (.cells #[.int .i64 nop, .int .u64 nst.a, .int .u64 nst.b, .int .u64 nst.c, .int .u64 nst.d, .slice kp kn kc] 50) = W3 := ⟨_, rfl⟩
    have hb3 : Below w2.heap.size w2 W3 := by rw [← hW3]; exact (Below.refl _ _).alloc (Nat.le_refl _) _
    have HC := Lib.hid (mcomp_any t hfine.1 (by omega) (htr.kept (B' := fun g => w.heap.size ≤ g) (fun g _ hl => hb3.block g hl) (fun g hg _ => hg)) (HDZ2.out.next hb3))
    have HX3 : Hid (W3.heap[w2.heap.size]? = some (.cells #[.int .i64 nop, .int .u64 nst.a, .int .u64 nst.b, .int .u64 nst.c, .int .u64 nst.d, .slice kp kn kc] 50 (0, 0))) := Lib.hid (by rw [← hW3]; exact mt_heap_new _ _)
    have x0 : W3.cell? ⟨w2.heap.size, 0, none⟩ = some (.int .i64 nop) := rg_cell HX3.out
    have x1 : W3.cell? ⟨w2.heap.size, 1, none⟩ = some (.int .u64 nst.a) := rg_cell HX3.out
    have x2 : W3.cell? ⟨w2.heap.size, 2, none⟩ = some (.int .u64 nst.b) := rg_cell HX3.out
    have x3 : W3.cell? ⟨w2.heap.size, 3, none⟩ = some (.int .u64 nst.c) := rg_cell HX3.out
    have x4 : W3.cell? ⟨w2.heap.size, 4, none⟩ = some (.int .u64 nst.d) := rg_cell HX3.out
    have x5 : W3.cell? ⟨w2.heap.size, 5, none⟩ = some (.slice kp kn kc) := rg_cell HX3.out
    have HB3 := Lib.hid (HB2.out.trans (hb3.mono hz2))
    have HW3 := Lib.hid hW3
    clear ht hb2 hb3 hW3 htr hfine hlen HB2 HDZ2 HX3 CP
    unfold Nd.val at HC ⊢
    simp only at HC ⊢
    go_upto_region 2 with fail
    rw [HW3.out]
    clear HW3
    go_wp2_with fail
    refine HC.out.mono ?_
    rintro e w4 ⟨d, rfl, hpg, hb4⟩
    have HPG := Lib.hid hpg
    have HB4 := Lib.hid (HB3.out.trans (hb4.mono HB3.out.size))
    clear hpg hb4
    go_wp2_with fail
    refine bodyPost_ret (v := .tuple #[.pointer (some ⟨d.p, 0, none⟩), .int .i64 0, .int .i64 0]) ?_ rfl ⟨HB4.out, .inl ⟨t, r, d, HTT.out, rfl, HPG.out⟩⟩
    simp [results, Tryd.results12, go_sem]
  · have HB2 := Lib.hid hb2
    have HE := Lib.hid (And.intro ht (And.intro hk hn))
    have hkn : ((k : Int) != 0) = true := by rcases hk with rfl | rfl <;> rfl
    clear hb2 ht hk hn CP HDZ
    unfold Nd.val
    go_wp2_with fail
    refine bodyPost_ret (v := .tuple #[.pointer none, .int .i64 ((s.size - n : Nat) : Int), .int .i64 (k : Int)]) ?_ rfl ⟨HB2.out.alloc HB2.out.size _, .inr ⟨n, k, HE.out.1, HE.out.2.1, HE.out.2.2, rfl⟩⟩
    simp [results, Tryd.results12, go_sem]
end Go.Proofs.YtjjejcgpeefclaaDoor

namespace Go.Proofs.YtjjejcgpeefclaaDoor

section
variable (tk B : Nat → Nat → Prop) (L : Nat → Nat → Prop) (N : Nat)
/-- Leaf x takes the byte at place i, and its rest is there. -/
inductive RowP : Nat → Nat → Prop where
  | last {i x : Nat} (h : i < N) (ht : tk x i) (hl : L (spotN (i + 1) N) x) : RowP i x
  | more {i x y : Nat} (h : i < N) (ht : tk x i) (hb : B x y) (hr : RowP (i + 1) y) : RowP i x
end
section
variable {tk B : Nat → Nat → Prop} {L : Nat → Nat → Prop} {N : Nat}
theorem RowP.lt {i x : Nat} (h : RowP tk B L N i x) : i < N := by cases h <;> assumption
theorem rowP_iff {i x : Nat} (hi : i < N) : RowP tk B L N i x ↔ tk x i ∧ (L (spotN (i + 1) N) x ∨ ∃ y, RowP tk B L N (i + 1) y ∧ B x y) := by
  constructor
  · intro h
    cases h with
    | last h ht hl => exact ⟨ht, .inl hl⟩
    | more h ht hb hr => exact ⟨ht, .inr ⟨_, hr, hb⟩⟩
  · rintro ⟨ht, hl | ⟨y, hr, hb⟩⟩
    · exact .last hi ht hl
    · exact .more hi ht hb hr
theorem rowP_run {i x : Nat} : RowP tk B L N i x ↔ ∃ y j, Run tk B x i y j ∧ j ≤ N ∧ L (spotN j N) y := by
  constructor
  · intro h
    induction h with
    | last h ht hl => exact ⟨_, _, .one ht, by omega, hl⟩
    | more h ht hb hr ih =>
      obtain ⟨y, j, h1, h2, h3⟩ := ih
      exact ⟨y, j, .more ht hb h1, h2, h3⟩
  · rintro ⟨y, j, h1, h2, h3⟩
    induction h1 with
    | one h => exact .last (by omega) h h3
    | more h hb hr ih => exact .more (by have := hr.lt; omega) h hb (ih h2 h3)
/-- A run is cut at any of its places. -/
theorem Run.cut {x i y j : Nat} (h : Run tk B x i y j) : ∀ k, i ≤ k → k < j → ∃ z, Run tk B x i z (k + 1) ∧ (z = y ∧ k + 1 = j ∨ ∃ z2, B z z2 ∧ Run tk B z2 (k + 1) y j) := by
  induction h with
  | @one x i h =>
    intro k h1 h2
    obtain rfl : k = i := by omega
    exact ⟨x, .one h, .inl ⟨rfl, rfl⟩⟩
  | @more x i z y j h hb hr ih =>
    intro k h1 h2
    by_cases hk : k = i
    · subst hk
      exact ⟨x, .one h, .inr ⟨z, hb, hr⟩⟩
    · obtain ⟨z3, h3, h4⟩ := ih k (by omega) h2
      exact ⟨z3, .more h hb h3, h4⟩
theorem Run.snoc {x i y j z : Nat} (h : Run tk B x i y j) (hb : B y z) (ht : tk z j) : Run tk B x i z (j + 1) := h.join hb (.one ht)
theorem Run.unsnoc {x i y j : Nat} (h : Run tk B x i y j) : tk y (j - 1) ∧ (x = y ∧ j = i + 1 ∨ ∃ z, Run tk B x i z (j - 1) ∧ B z y ∧ i < j - 1) := by
  induction h with
  | one h => exact ⟨by simpa using h, .inl ⟨rfl, rfl⟩⟩
  | @more x i z y j h hb hr ih =>
    refine ⟨ih.1, .inr ?_⟩
    have hlt := hr.lt
    rcases ih.2 with ⟨rfl, rfl⟩ | ⟨z3, h3, h4, h5⟩
    · exact ⟨x, .one h, hb, by omega⟩
    · exact ⟨z3, .more h hb h3, h4, by omega⟩
end
/-- What of a text's byte at a place a tree's leaf takes. -/
def tkS (s : ByteArray) (t : RT) (x i : Nat) : Prop := ∃ h : i < s.size, Tks hasP t 0 x s[i].toNat
/-- A set has the byte at a place. -/
def gS (s : ByteArray) (st : W4) (i : Nat) : Prop := ∃ h : i < s.size, hasP st s[i].toNat
mutual
theorem tks_at (s : ByteArray) (i : Nat) (hi : i < s.size) : ∀ (t : RT) (b x : Nat), Tks (gS s) t b x i ↔ Tks hasP t b x s[i].toNat
  | .mk op st ks, b, x => by
    unfold Tks
    split
    · constructor
      · rintro ⟨h, _, h2⟩; exact ⟨h, h2⟩
      · rintro ⟨h, h2⟩; exact ⟨h, hi, h2⟩
    · split
      · exact Iff.rfl
      · exact tksL_at s i hi ks b x
theorem tksL_at (s : ByteArray) (i : Nat) (hi : i < s.size) : ∀ (ks : List RT) (b x : Nat), TksL (gS s) ks b x i ↔ TksL hasP ks b x s[i].toNat
  | [], b, x => by unfold TksL; exact Iff.rfl
  | t :: ts, b, x => by
    unfold TksL
    rw [tks_at s i hi t b x, tksL_at s i hi ts _ x]
end
mutual
theorem tks_in (s : ByteArray) (i : Nat) : ∀ (t : RT) (b x : Nat), Tks (gS s) t b x i → i < s.size
  | .mk op st ks, b, x, h => by
    unfold Tks at h
    split at h
    · exact h.2.1
    · split at h
      · exact h.elim
      · exact tksL_in s i ks b x h
theorem tksL_in (s : ByteArray) (i : Nat) : ∀ (ks : List RT) (b x : Nat), TksL (gS s) ks b x i → i < s.size
  | [], b, x, h => by unfold TksL at h; exact h.elim
  | t :: ts, b, x, h => by
    unfold TksL at h
    rcases h with ⟨_, h⟩ | ⟨_, h⟩
    · exact tks_in s i t b x h
    · exact tksL_in s i ts _ x h
end
theorem tkS_iff (s : ByteArray) (t : RT) (x i : Nat) : tkS s t x i ↔ Tks (gS s) t 0 x i := by
  constructor
  · rintro ⟨h, h2⟩; exact (tks_at s i h t 0 x).2 h2
  · intro h
    have hi := tks_in s i t 0 x h
    exact ⟨hi, (tks_at s i hi t 0 x).1 h⟩
/-- A tree is met by a text from a place to a place. -/
def Met (s : ByteArray) (t : RT) (i j : Nat) : Prop := j ≤ s.size ∧ Lead (gS s) s.size t i j
/-- The leaves of a text's place whose rest is there. -/
abbrev RowS (s : ByteArray) (t : RT) : Nat → Nat → Prop := RowP (tkS s t) (Bhd t 0) (Lst t 0) s.size
theorem met_iff {s : ByteArray} {t : RT} {i j : Nat} : Met s t i j ↔ j ≤ s.size ∧ ((i = j ∧ emp t (spotN i s.size) = true) ∨ ∃ x y, Fst t 0 (spotN i s.size) x ∧ Lst t 0 (spotN j s.size) y ∧ Run (tkS s t) (Bhd t 0) x i y j) := by
  unfold Met
  constructor
  · rintro ⟨h1, h2⟩
    refine ⟨h1, ?_⟩
    rcases (lead_iff (gS s) s.size t 0 i j h1).1 h2 with h | ⟨h, x, y, h3, h4, h5⟩
    · exact .inl h
    · exact .inr ⟨x, y, h3, h4, h5.mono (fun x i h => (tkS_iff s t x i).2 h) (fun _ _ h => h)⟩
  · rintro ⟨h1, h2⟩
    refine ⟨h1, (lead_iff (gS s) s.size t 0 i j h1).2 ?_⟩
    rcases h2 with h | ⟨x, y, h3, h4, h5⟩
    · exact .inl h
    · exact .inr ⟨h5.lt, x, y, h3, h4, h5.mono (fun x i h => (tkS_iff s t x i).1 h) (fun _ _ h => h)⟩
theorem Met.le {s : ByteArray} {t : RT} {i j : Nat} (h : Met s t i j) : i ≤ j := Lead.le _ _ t i j h.2
/-- A match begins at a place. -/
theorem begins_iff {s : ByteArray} {t : RT} {i : Nat} (hi : i ≤ s.size) : (∃ j, Met s t i j) ↔ (emp t (spotN i s.size) = true ∨ ∃ x, Fst t 0 (spotN i s.size) x ∧ RowS s t i x) := by
  constructor
  · rintro ⟨j, h⟩
    obtain ⟨h1, ⟨rfl, h2⟩ | ⟨x, y, h3, h4, h5⟩⟩ := met_iff.1 h
    · exact .inl h2
    · exact .inr ⟨x, h3, rowP_run.2 ⟨y, j, h5, h1, h4⟩⟩
  · rintro (h | ⟨x, h3, h⟩)
    · exact ⟨i, met_iff.2 ⟨hi, .inl ⟨rfl, h⟩⟩⟩
    · obtain ⟨y, j, h5, h1, h4⟩ := rowP_run.1 h
      exact ⟨j, met_iff.2 ⟨h1, .inr ⟨x, y, h3, h4, h5⟩⟩⟩
/-- The leaves that are held behind k bytes of a match that begins at i, and comes to an end. -/
def NowS (s : ByteArray) (t : RT) (i k x : Nat) : Prop := RowS s t k x ∧ ∃ x0, Fst t 0 (spotN i s.size) x0 ∧ Run (tkS s t) (Bhd t 0) x0 i x (k + 1)
theorem now_first {s : ByteArray} {t : RT} {i x : Nat} : NowS s t i i x ↔ Fst t 0 (spotN i s.size) x ∧ RowS s t i x := by
  constructor
  · rintro ⟨h, x0, h1, h2⟩
    obtain ⟨h3, ⟨rfl, _⟩ | ⟨z, _, _, h6⟩⟩ := h2.unsnoc
    · exact ⟨h1, h⟩
    · omega
  · rintro ⟨h1, h⟩
    refine ⟨h, x, h1, .one ?_⟩
    cases h <;> assumption
theorem now_next {s : ByteArray} {t : RT} {i k x : Nat} (hk : i ≤ k) : NowS s t i (k + 1) x ↔ RowS s t (k + 1) x ∧ ∃ y, NowS s t i k y ∧ Bhd t 0 y x := by
  constructor
  · rintro ⟨h, x0, h1, h2⟩
    refine ⟨h, ?_⟩
    obtain ⟨h3, ⟨rfl, h4⟩ | ⟨z, h4, h5, h6⟩⟩ := h2.unsnoc
    · omega
    · have e : k + 1 + 1 - 1 = k + 1 := by omega
      rw [e] at h4 h6
      have htz : tkS s t z k := by
        have := h4.unsnoc.1
        simpa using this
      exact ⟨z, ⟨.more (by have := h.lt; omega) htz h5 h, x0, h1, h4⟩, h5⟩
  · rintro ⟨h, y, ⟨_, x0, h1, h2⟩, h3⟩
    refine ⟨h, x0, h1, h2.snoc h3 ?_⟩
    cases h <;> assumption
/-- A match ends behind k + 1 bytes just if a leaf held there may be its last. -/
theorem now_end {s : ByteArray} {t : RT} {i k : Nat} (hk : i ≤ k) : (∃ x, NowS s t i k x ∧ Lst t 0 (spotN (k + 1) s.size) x) ↔ Met s t i (k + 1) := by
  constructor
  · rintro ⟨x, ⟨h, x0, h1, h2⟩, h3⟩
    exact met_iff.2 ⟨by have := h.lt; omega, .inr ⟨x0, x, h1, h3, h2⟩⟩
  · intro h
    obtain ⟨h1, ⟨h2, _⟩ | ⟨x, y, h3, h4, h5⟩⟩ := met_iff.1 h
    · omega
    · refine ⟨y, ⟨.last (by omega) ?_ h4, x, h3, h5⟩, h4⟩
      have := h5.unsnoc.1
      simpa using this
theorem now_none {s : ByteArray} {t : RT} {i k : Nat} (hk : i ≤ k) (h : ∀ x, ¬ NowS s t i k x) : ∀ j, k < j → ¬ Met s t i j := by
  intro j hj hm
  obtain ⟨h1, ⟨h2, _⟩ | ⟨x, y, h3, h4, h5⟩⟩ := met_iff.1 hm
  · omega
  · obtain ⟨z, h6, h7⟩ := h5.cut k hk hj
    refine h z ⟨?_, x, h3, h6⟩
    have htz : tkS s t z k := by
      have := h6.unsnoc.1
      simpa using this
    rcases h7 with ⟨rfl, rfl⟩ | ⟨z2, hb, hr⟩
    · exact .last (by omega) htz h4
    · exact .more (by have := hr.lt; omega) htz hb (rowP_run.2 ⟨y, j, hr, h1, h4⟩)
end Go.Proofs.YtjjejcgpeefclaaDoor
