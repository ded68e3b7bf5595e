/-
  CONTRACT of layer 10's Compile: a tree as the reader makes it becomes a program.
-/
import Derived.Test.YtmlpkimbcjkbkaaGreatDoorMtC1
namespace Go.Proofs.YtmlpkimbcjkbkaaGreatDoor
open Go.RowKit

def NbPost (w : World) (L : Nat) (e : Ending) (w' : World) : Prop :=
  ∃ d : Bd, e = .returned (.pointer (some ⟨d.b, 0, none⟩)) ∧ Bl w' d 0 (fun _ _ => False) (fun _ _ => False) ∧ d.ok ∧ d.L = L ∧ (∀ k, k = d.p ∨ d.own k → w.heap.size ≤ k) ∧ Below w.heap.size w w'
set_option maxHeartbeats 4000000 in
theorem mnb_any (L : Nat) (hL : L ≤ 2000) (w : World) (hz : Dz w) :
    Calls Tryz.prog 36 #[.int .i64 (L : Int)] w (NbPost w L) := by
  obtain ⟨m, hm⟩ : ∃ m, (L + 63) / 64 = m := ⟨_, rfl⟩
  have hm1 : m ≤ 100 := by omega
  have hm2 : L ≤ 64 * m := by omega
  have hmi : ((L : Int) + 63) / 64 = (m : Int) := by omega
  have hLm : L * m ≤ 1000000000 := by
    have := Nat.mul_le_mul hL hm1
    omega
  have CT1 : Hid (∀ W, Calls Tryz.prog 38 #[.int .i64 256, .int .i64 (m : Int)] W fun e w' => ∃ g, e = .returned (.agg #[.int .i64 (m : Int), .slice (some ⟨g, 0, none⟩) (256 * m) (256 * m)]) ∧ W.heap.size ≤ g ∧ Tb w' g 256 m (fun _ _ => False) ∧ Below W.heap.size W w') := Lib.hid fun W => mtab_any 256 m (by omega) W
  have CT2 : Hid (∀ W, Calls Tryz.prog 38 #[.int .i64 (L : Int), .int .i64 (m : Int)] W fun e w' => ∃ g, e = .returned (.agg #[.int .i64 (m : Int), .slice (some ⟨g, 0, none⟩) (L * m) (L * m)]) ∧ W.heap.size ≤ g ∧ Tb w' g L m (fun _ _ => False) ∧ Below W.heap.size W w') := Lib.hid fun W => mtab_any L m hLm W
  have HZ := Lib.hid hz
  have HM := Lib.hid hm2
  have hLi : (L : Int) ≤ 2000 := by omega
  clear hz hm hLm hm2
  go_enter Tryz.func36, Tryz.ntmps36
  go_wp2_with fail
  refine (CT1.out _).mono ?_
  rintro e w2 ⟨g1, rfl, hg1, ht1, hb1⟩
  have HT1 := Lib.hid ht1
  have HB1 := Lib.hid hb1
  have hl1 := ht1.lt
  clear ht1 hb1
  go_wp2_with fail
  refine (CT2.out _).mono ?_
  rintro e w3 ⟨g2, rfl, hg2, ht2, hb2⟩
  have HT1b := Lib.hid (HT1.out.next hb2)
  have HT2 := Lib.hid ht2
  have hz1 := HB1.out.size
  have HB2 := Lib.hid (HB1.out.trans (hb2.mono hz1))
  have hl2 := ht2.lt
  clear ht2 hb2 HT1 HB1
  go_wp2_with fail
  refine (CT2.out _).mono ?_
  rintro e w4 ⟨g3, rfl, hg3, ht3, hb3⟩
  have HT1c := Lib.hid (HT1b.out.next hb3)
  have HT2c := Lib.hid (HT2.out.next hb3)
  have HT3 := Lib.hid ht3
  have hz2 := HB2.out.size
  have HB3 := Lib.hid (HB2.out.trans (hb3.mono hz2))
  have hl3 := ht3.lt
  clear ht3 hb3 HT1b HT2 HB2 CT1 CT2
  go_wp2_with fail
  go_ret
  obtain ⟨W6, hW6⟩ : ∃ W6, (w4.alloc (.cells #[.int .i64 (m : Int), .int .i64 (m : Int), .slice (some ⟨g1, 0, none⟩) (256 * m) (256 * m), .int .i64 (m : Int), .slice (some ⟨g2, 0, none⟩) (L * m) (L * m), .int .i64 (m : Int), .slice (some ⟨g3, 0, none⟩) (L * m) (L * m), .bool false, .bool false, .bool false, .bool false, .int .i64 0, .slice none 0 0, .int .i64 0, .slice none 0 0] 93)).alloc (.cells #[.pointer (some ⟨w4.heap.size, 0, none⟩), .int .i64 0] 91) = W6 := ⟨_, rfl⟩
  have hb6 : Below w4.heap.size w4 W6 := by rw [← hW6]; exact ((Below.refl _ _).alloc (Nat.le_refl _) _).alloc (by simp) _
  have hz3 := HB3.out.size
  refine ⟨⟨w4.heap.size + 1, w4.heap.size, g1, g2, g3, m, L⟩, rfl, ?_, ?_, rfl, ?_, ?_⟩
  · rw [hW6]
    refine ⟨?_, ?_, HT1c.out.next hb6, HT2c.out.next hb6, HT3.out.next hb6, (HZ.out.next HB3.out).next hb6⟩
    · rw [← hW6]
      have := mt_heap_new (w4.alloc (.cells #[.int .i64 (m : Int), .int .i64 (m : Int), .slice (some ⟨g1, 0, none⟩) (256 * m) (256 * m), .int .i64 (m : Int), .slice (some ⟨g2, 0, none⟩) (L * m) (L * m), .int .i64 (m : Int), .slice (some ⟨g3, 0, none⟩) (L * m) (L * m), .bool false, .bool false, .bool false, .bool false, .int .i64 0, .slice none 0 0, .int .i64 0, .slice none 0 0] 93)) (.cells #[.pointer (some ⟨w4.heap.size, 0, none⟩), .int .i64 0] 91)
      rw [World.size_alloc] at this
      exact this
    · rw [← hW6]
      exact (Below.heap_alloc _ _ _ (by simp)).trans (mt_heap_new _ _)
  · constructor <;> (try show _ ≠ _) <;> (try simp only) <;> (first | omega | exact HM.out)
  · intro k hk
    rcases hk with rfl | rfl | rfl | rfl | rfl <;> ((try simp only); omega)
  · rw [hW6]; exact HB3.out.trans (hb6.mono hz3)
end Go.Proofs.YtmlpkimbcjkbkaaGreatDoor

namespace Go.Proofs.YtmlpkimbcjkbkaaGreatDoor
open Go.RowKit

/-- A program: its block, how many words and leaves, its tables' blocks. -/
structure Pd where
  p : Nat
  m : Nat
  L : Nat
  t : Nat
  a : Nat
  h : Nat
  f : Nat
  l : Nat
def Pd.cells (d : Pd) (E : Nat → Bool) : Array Value := #[.int .i64 (d.m : Int), .int .i64 (d.m : Int), .slice (some ⟨d.t, 0, none⟩) (256 * d.m) (256 * d.m), .int .i64 (d.m : Int), .slice (some ⟨d.a, 0, none⟩) (d.L * d.m) (d.L * d.m), .int .i64 (d.m : Int), .slice (some ⟨d.h, 0, none⟩) (d.L * d.m) (d.L * d.m),
  .bool (E 0), .bool (E 1), .bool (E 2), .bool (E 3), .int .i64 (d.m : Int), .slice (some ⟨d.f, 0, none⟩) (4 * d.m) (4 * d.m), .int .i64 (d.m : Int), .slice (some ⟨d.l, 0, none⟩) (4 * d.m) (4 * d.m)]
/-- A tree's program lies in memory. -/
structure Pg (w : World) (d : Pd) (t : RT) : Prop where
  prog : w.heap[d.p]? = some (.cells (d.cells (emp t)) 93 (0, 0))
  tk : Tb w d.t 256 d.m (fun c x => Tks hasP t 0 x c)
  ah : Tb w d.a d.L d.m (fun r x => Bhd t 0 x r)
  bh : Tb w d.h d.L d.m (fun r x => Bhd t 0 r x)
  f : Tb w d.f 4 d.m (Fst t 0)
  l : Tb w d.l 4 d.m (Lst t 0)
  dz : Dz w
  m : d.m ≤ 100
  L : d.L = leafN t
  Lm : d.L ≤ 64 * d.m
theorem Pg.kept {w w' : World} {d : Pd} {t : RT} (h : Pg w d t) (hk : ∀ k, k = d.p ∨ k = d.t ∨ k = d.a ∨ k = d.h ∨ k = d.f ∨ k = d.l ∨ k = (0 : Nat) → k < w.heap.size → w'.heap[k]? = w.heap[k]?) : Pg w' d t :=
  ⟨(hk _ (.inl rfl) (Array.getElem?_eq_some_iff.1 h.prog).1).trans h.prog, h.tk.kept (hk _ (.inr (.inl rfl)) h.tk.lt), h.ah.kept (hk _ (.inr (.inr (.inl rfl))) h.ah.lt), h.bh.kept (hk _ (.inr (.inr (.inr (.inl rfl)))) h.bh.lt),
    h.f.kept (hk _ (.inr (.inr (.inr (.inr (.inl rfl))))) h.f.lt), h.l.kept (hk _ (.inr (.inr (.inr (.inr (.inr (.inl rfl)))))) h.l.lt), h.dz.kept (hk _ (.inr (.inr (.inr (.inr (.inr (.inr rfl)))))) h.dz.lt), h.m, h.L, h.Lm⟩
theorem Pg.next {w w' : World} {d : Pd} {t : RT} (h : Pg w d t) (hb : Below w.heap.size w w') : Pg w' d t := h.kept fun k _ hl => hb.block k hl
def CompPost (w : World) (t : RT) (e : Ending) (w' : World) : Prop := ∃ d : Pd, e = .returned (.tuple #[.pointer (some ⟨d.p, 0, none⟩), .int .i64 0]) ∧ Pg w' d t ∧ Below w.heap.size w w'
set_option maxHeartbeats 8000000 in
set_option maxRecDepth 100000 in
theorem mcomp_any (t : RT) (hf : t.Fine) (hz : sizeN t ≤ 2000) {w : World} {nd : Nd} {K : Nat → Prop} (htr : TreeN w K t nd) (hdz : Dz w) :
    Calls Tryz.prog 14 #[nd.val] w (CompPost w t) := by
  obtain ⟨nop, nst, kp, kn, kc⟩ := nd
  have hlf := leaf_le_size t
  obtain ⟨W1, hW1⟩ : ∃ W1, (w.alloc (.cells #[.int .i64 nop, .int .u64 nst.a, .int .u64 nst.b, .int .u64 nst.c, .int .u64 nst.d, .slice kp kn kc] 45)).alloc (.cells #[.int .i64 0, .int .i64 0] 82) = W1 := ⟨_, rfl⟩
  have hb1 : Below w.heap.size w W1 := by rw [← hW1]; exact ((Below.refl _ _).alloc (Nat.le_refl _) _).alloc (by simp) _
  have hz1 : W1.heap.size = w.heap.size + 2 := by rw [← hW1]; simp
  have hx0 : W1.heap[w.heap.size]? = some (.cells #[.int .i64 nop, .int .u64 nst.a, .int .u64 nst.b, .int .u64 nst.c, .int .u64 nst.d, .slice kp kn kc] 45 (0, 0)) := by rw [← hW1]; exact (Below.heap_alloc _ _ _ (by simp)).trans (mt_heap_new _ _)
  have ht1 : Tl W1 (w.heap.size + 1) 0 0 := by
    rw [← hW1]
    have := mt_heap_new (w.alloc (.cells #[.int .i64 nop, .int .u64 nst.a, .int .u64 nst.b, .int .u64 nst.c, .int .u64 nst.d, .slice kp kn kc] 45)) (.cells #[.int .i64 0, .int .i64 0] 82)
    rw [World.size_alloc] at this
    exact this
  have htr1 : TreeN W1 (fun g => K g ∧ g < w.heap.size) t ⟨nop, nst, kp, kn, kc⟩ := htr.kept (fun g _ hl => hb1.block g hl) (fun g hg hl => ⟨hg, hl⟩)
  have CC := Lib.hid (mcount_any t hf W1 (w.heap.size + 1) 0 0 _ _ ht1 htr1 (fun g hg _ => by omega) (by omega) (by omega))
  rw [Nat.zero_add, Nat.zero_add] at CC
  unfold Nd.val at CC ⊢
  have x0 : W1.cell? ⟨w.heap.size, 0, none⟩ = some (.int .i64 nop) := rg_cell hx0
  have x1 : W1.cell? ⟨w.heap.size, 1, none⟩ = some (.int .u64 nst.a) := rg_cell hx0
  have x2 : W1.cell? ⟨w.heap.size, 2, none⟩ = some (.int .u64 nst.b) := rg_cell hx0
  have x3 : W1.cell? ⟨w.heap.size, 3, none⟩ = some (.int .u64 nst.c) := rg_cell hx0
  have x4 : W1.cell? ⟨w.heap.size, 4, none⟩ = some (.int .u64 nst.d) := rg_cell hx0
  have x5 : W1.cell? ⟨w.heap.size, 5, none⟩ = some (.slice kp kn kc) := rg_cell hx0
  have HX0 := Lib.hid hx0
  have HB1 := Lib.hid hb1
  have HW1 := Lib.hid hW1
  have HTR := Lib.hid htr1
  have HDZ := Lib.hid (hdz.next hb1)
  have HF := Lib.hid hf
  clear hx0 hb1 hW1 htr htr1 ht1 hdz hf
  simp only at CC ⊢
  go_enter Tryz.func14, Tryz.ntmps14
  go_upto_region 2 with fail
  rw [HW1.out]
  clear HW1
  go_wp2_with fail
  refine CC.out.mono ?_
  rintro e w2 ⟨rfl, ht2, ho2⟩
  have hz2 := ho2.size
  have hn0 : ¬ (2000 : Int) < ((sizeN t : Nat) : Int) := by omega
  have c0 : w2.cell? ⟨w.heap.size + 1, 0, none⟩ = some (.int .i64 ((sizeN t : Nat) : Int)) := rg_cell ht2
  have c1 : w2.cell? ⟨w.heap.size + 1, 1, none⟩ = some (.int .i64 ((leafN t : Nat) : Int)) := rg_cell ht2
  have hx2 := (ho2.block w.heap.size (by omega) (by omega)).trans HX0.out
  have hglob := HDZ.out.lt
  have hgn : (0 : Nat) ≠ w.heap.size + 1 := fun e => by
    have := HDZ.out 0 (by decide)
    have h2 := dz_ne HDZ.out HX0.out
    omega
  have hdz2 : Dz w2 := HDZ.out.kept (ho2.block _ hglob hgn)
  have CB := Lib.hid (mnb_any (leafN t) (by omega) w2 hdz2)
  have HX2 := Lib.hid hx2
  have HTR2 : Hid (TreeN w2 (fun g => K g ∧ g < w.heap.size) t ⟨nop, nst, kp, kn, kc⟩) := Lib.hid (HTR.out.kept (fun g hg hl => ho2.block g hl (by omega)) (fun g hg _ => hg))
  have HB2 : Hid (Below w.heap.size w w2) := Lib.hid (HB1.out.trans (ho2.below (by omega) (by omega)))
  clear x0 x1 x2 x3 x4 x5 hx2 ho2 ht2 hdz2 HDZ HX0 HTR HB1 CC
  obtain ⟨sz, hsz⟩ : ∃ sz, sizeN t = sz := ⟨_, rfl⟩
  obtain ⟨L, hL⟩ : ∃ L, leafN t = L := ⟨_, rfl⟩
  rw [hsz] at hn0 c0
  rw [hL] at c1 CB
  have HSL := Lib.hid (And.intro hsz hL)
  clear hsz hL
  go_wp2_with fail
  refine CB.out.mono ?_
  rintro e w3 ⟨d, rfl, hbl3, hok, hdL, hnew, hb3⟩
  have hz3 := hb3.size
  have HX3 := Lib.hid ((hb3.block _ (by omega)).trans HX2.out)
  have HTR3 : Hid (TreeN w3 (fun g => K g ∧ g < w.heap.size) t ⟨nop, nst, kp, kn, kc⟩) := Lib.hid (HTR2.out.kept (fun g hg hl => hb3.block g hl) (fun g hg _ => hg))
  have HB3 := Lib.hid (HB2.out.trans (hb3.mono HB2.out.size))
  have HBL3 := Lib.hid hbl3
  have HOK := Lib.hid hok
  have HNW := Lib.hid hnew
  have HDL := Lib.hid hdL
  have hz2b := HB2.out.size
  have hnd : w2.heap.size ≤ d.p ∧ w2.heap.size ≤ d.b ∧ w2.heap.size ≤ d.t ∧ w2.heap.size ≤ d.a ∧ w2.heap.size ≤ d.h := ⟨hnew _ (.inl rfl), hnew _ (.inr (.inl rfl)), hnew _ (.inr (.inr (.inl rfl))), hnew _ (.inr (.inr (.inr (.inl rfl)))), hnew _ (.inr (.inr (.inr (.inr rfl))))⟩
  clear hb3 hbl3 hok hnew hdL HX2 HTR2 HB2 CB c0 c1 hn0 hgn hglob
  have CP : Hid (∀ Z, Below w3.heap.size w3 Z → Calls Tryz.prog 37 #[.pointer (some ⟨d.b, 0, none⟩), .agg #[.int .i64 nop, .int .u64 nst.a, .int .u64 nst.b, .int .u64 nst.c, .int .u64 nst.d, .slice kp kn kc]] Z (PcPost Z d (0 + leafN t) (fun c x => False ∨ Tks hasP t 0 x c) (fun r x => False ∨ Bhd t 0 r x) (emp t) (Fst t 0) (Lst t 0))) := Lib.hid fun Z hZ =>
    mpiece_any t (HF.out.few t (by have := HSL.out.1; omega)) Z d 0 (fun _ _ => False) (fun _ _ => False) ⟨nop, nst, kp, kn, kc⟩ (fun g => K g ∧ g < w.heap.size) HOK.out (HBL3.out.next hZ) (HTR3.out.kept (fun g _ hl => hZ.block g hl) (fun g hg _ => hg)) (fun g hg _ => ⟨fun hc => by rcases hc with rfl | rfl | rfl | rfl <;> omega, fun e => by omega⟩) (HF.out.ok t) (by rw [HDL.out, HSL.out.2]; omega)
  have HH : w3.drew.cell? ⟨d.b, 0, none⟩ = some (.pointer (some ⟨d.p, 0, none⟩)) ∧ w3.drew.cell? ⟨w.heap.size, 0, none⟩ = some (.int .i64 nop) ∧ w3.drew.cell? ⟨w.heap.size, 1, none⟩ = some (.int .u64 nst.a) ∧ w3.drew.cell? ⟨w.heap.size, 2, none⟩ = some (.int .u64 nst.b) ∧ w3.drew.cell? ⟨w.heap.size, 3, none⟩ = some (.int .u64 nst.c) ∧ w3.drew.cell? ⟨w.heap.size, 4, none⟩ = some (.int .u64 nst.d) ∧ w3.drew.cell? ⟨w.heap.size, 5, none⟩ = some (.slice kp kn kc) := by
    have e1 := ((drew_below w3).block _ HBL3.out.lt.1).trans HBL3.out.blk
    have e2 := ((drew_below w3).block _ (by omega)).trans HX3.out
    exact ⟨rg_cell e1, rg_cell e2, rg_cell e2, rg_cell e2, rg_cell e2, rg_cell e2, rg_cell e2⟩
  go_wp2_with fail
  refine wp_region_L (st := [9]) (S := fun Z => Z.cell? ⟨d.b, 0, none⟩ = some (.pointer (some ⟨d.p, 0, none⟩)) ∧ Z.cell? ⟨w.heap.size, 0, none⟩ = some (.int .i64 nop) ∧ Z.cell? ⟨w.heap.size, 1, none⟩ = some (.int .u64 nst.a) ∧ Z.cell? ⟨w.heap.size, 2, none⟩ = some (.int .u64 nst.b) ∧ Z.cell? ⟨w.heap.size, 3, none⟩ = some (.int .u64 nst.c) ∧ Z.cell? ⟨w.heap.size, 4, none⟩ = some (.int .u64 nst.d) ∧ Z.cell? ⟨w.heap.size, 5, none⟩ = some (.slice kp kn kc)) (by kernel_rfl) HH (fun hHeld => ?_)
  clear HH
  refine tkL 0 (v := ?_) rfl ?_ ?_
  rotate_left
  · (intro w hSw; obtain ⟨q0, q1, q2, q3, q4, q5, q6⟩ := hSw; go_simp; try with_reducible rfl)
  try simp only [nrm]
  refine tkL 1 (v := ?_) rfl ?_ ?_
  rotate_left
  · (intro w hSw; obtain ⟨q0, q1, q2, q3, q4, q5, q6⟩ := hSw; go_simp; try with_reducible rfl)
  try simp only [nrm]
  refine tkL 2 (v := ?_) rfl ?_ ?_
  rotate_left
  · (intro w hSw; obtain ⟨q0, q1, q2, q3, q4, q5, q6⟩ := hSw; go_simp; try with_reducible rfl)
  try simp only [nrm]
  refine tkL 3 (v := ?_) rfl ?_ ?_
  rotate_left
  · (intro w hSw; obtain ⟨q0, q1, q2, q3, q4, q5, q6⟩ := hSw; go_simp; try with_reducible rfl)
  try simp only [nrm]
  refine tkL 4 (v := ?_) rfl ?_ ?_
  rotate_left
  · (intro w hSw; obtain ⟨q0, q1, q2, q3, q4, q5, q6⟩ := hSw; go_simp; try with_reducible rfl)
  try simp only [nrm]
  refine tkL 5 (v := ?_) rfl ?_ ?_
  rotate_left
  · (intro w hSw; obtain ⟨q0, q1, q2, q3, q4, q5, q6⟩ := hSw; go_simp; try with_reducible rfl)
  try simp only [nrm]
  refine rdL 6 rfl (fun K hK => ?_)
  go_simp
  refine (CP.out _ (drew_below w3)).mono ?_
  rintro e w7 ⟨gf, gl, rfl, hpc, hbl, hch⟩
  have hz7 := hch.size
  have hne7 : ∀ k, w3.heap.size ≤ k → True := fun _ _ => trivial
  have hpr := hbl.prog
  have hxx := (hch.block w.heap.size (by show w.heap.size < w3.heap.size; omega) (fun hc => by rcases hc with h | h | h | h <;> omega)).trans (show w3.drew.heap[w.heap.size]? = _ from HX3.out)
  have hbb := hbl.blk
  have hH7 : w7.cell? ⟨d.b, 0, none⟩ = some (.pointer (some ⟨d.p, 0, none⟩)) ∧ w7.cell? ⟨w.heap.size, 0, none⟩ = some (.int .i64 nop) ∧ w7.cell? ⟨w.heap.size, 1, none⟩ = some (.int .u64 nst.a) ∧ w7.cell? ⟨w.heap.size, 2, none⟩ = some (.int .u64 nst.b) ∧ w7.cell? ⟨w.heap.size, 3, none⟩ = some (.int .u64 nst.c) ∧ w7.cell? ⟨w.heap.size, 4, none⟩ = some (.int .u64 nst.d) ∧ w7.cell? ⟨w.heap.size, 5, none⟩ = some (.slice kp kn kc) := ⟨rg_cell hbb, rg_cell hxx, rg_cell hxx, rg_cell hxx, rg_cell hxx, rg_cell hxx, rg_cell hxx⟩
  refine hK.out _ _ hH7 (fun hHeld => ?_)
  have HPC := Lib.hid hpc
  have HBL := Lib.hid hbl
  have HCH := Lib.hid hch
  clear hK K hpc hbl hch hH7 hne7 hbb hxx
  unfold pcV
  try simp only [nrm]
  refine tkL 7 (v := ?_) rfl ?_ ?_
  rotate_left
  · (intro w hSw; obtain ⟨q0, q1, q2, q3, q4, q5, q6⟩ := hSw; go_simp; try with_reducible rfl)
  try simp only [nrm]
  refine tkL 8 (v := ?_) rfl ?_ ?_
  rotate_left
  · (intro w hSw; obtain ⟨q0, q1, q2, q3, q4, q5, q6⟩ := hSw; go_simp; try with_reducible rfl)
  try simp only [nrm]
  have p7 : w7.cell? ⟨d.p, 7, none⟩ = some (.bool false) := rg_cell hpr
  have f7 : w7.frozen? ⟨d.p, 7, none⟩ = false := rg_frozen hpr
  have p8 : w7.cell? ⟨d.p, 8, none⟩ = some (.bool false) := rg_cell hpr
  have f8 : w7.frozen? ⟨d.p, 8, none⟩ = false := rg_frozen hpr
  have p9 : w7.cell? ⟨d.p, 9, none⟩ = some (.bool false) := rg_cell hpr
  have f9 : w7.frozen? ⟨d.p, 9, none⟩ = false := rg_frozen hpr
  have p10 : w7.cell? ⟨d.p, 10, none⟩ = some (.bool false) := rg_cell hpr
  have f10 : w7.frozen? ⟨d.p, 10, none⟩ = false := rg_frozen hpr
  have p11 : w7.cell? ⟨d.p, 11, none⟩ = some (.int .i64 0) := rg_cell hpr
  have f11 : w7.frozen? ⟨d.p, 11, none⟩ = false := rg_frozen hpr
  have p12 : w7.cell? ⟨d.p, 12, none⟩ = some (.slice none 0 0) := rg_cell hpr
  have f12 : w7.frozen? ⟨d.p, 12, none⟩ = false := rg_frozen hpr
  have p13 : w7.cell? ⟨d.p, 13, none⟩ = some (.int .i64 0) := rg_cell hpr
  have f13 : w7.frozen? ⟨d.p, 13, none⟩ = false := rg_frozen hpr
  have p14 : w7.cell? ⟨d.p, 14, none⟩ = some (.slice none 0 0) := rg_cell hpr
  have f14 : w7.frozen? ⟨d.p, 14, none⟩ = false := rg_frozen hpr
  obtain ⟨W9, hW9⟩ : ∃ W9, ((((((((w7.setCell ⟨d.p, 7, none⟩ (.bool (emp t 0))).setCell ⟨d.p, 8, none⟩ (.bool (emp t 1))).setCell ⟨d.p, 9, none⟩ (.bool (emp t 2))).setCell ⟨d.p, 10, none⟩ (.bool (emp t 3))).setCell ⟨d.p, 11, none⟩ (.int .i64 (d.m : Int))).setCell ⟨d.p, 12, none⟩ (.slice (some ⟨gf, 0, none⟩) (4 * d.m) (4 * d.m))).setCell ⟨d.p, 13, none⟩ (.int .i64 (d.m : Int))).setCell ⟨d.p, 14, none⟩ (.slice (some ⟨gl, 0, none⟩) (4 * d.m) (4 * d.m))) = W9 := ⟨_, rfl⟩
  have ho9 : Onl d.p w7 W9 := by rw [← hW9]; exact ((((((((Onl.refl _ _).setCell _ _).setCell _ _).setCell _ _).setCell _ _).setCell _ _).setCell _ _).setCell _ _).setCell _ _
  have hp9 : W9.heap[d.p]? = some (.cells (Pd.cells ⟨d.p, d.m, d.L, d.t, d.a, d.h, gf, gl⟩ (emp t)) 93 (0, 0)) := by
    rw [← hW9]
    obtain ⟨n4, hn4⟩ : ∃ n4, 4 * d.m = n4 := ⟨_, rfl⟩
    unfold Bd.prog at hpr
    unfold Pd.cells
    simp only [hn4]
    have h1 := rg_setCell (i := 14) (rg_setCell (i := 13) (rg_setCell (i := 12) (rg_setCell (i := 11) (rg_setCell (i := 10) (rg_setCell (i := 9) (rg_setCell (i := 8) (rg_setCell (i := 7) hpr (.bool (emp t 0))) (.bool (emp t 1))) (.bool (emp t 2))) (.bool (emp t 3))) (.int .i64 (d.m : Int))) (.slice (some ⟨gf, 0, none⟩) n4 n4)) (.int .i64 (d.m : Int))) (.slice (some ⟨gl, 0, none⟩) n4 n4)
    simp only [List.setIfInBounds_toArray, List.set_cons_zero, List.set_cons_succ] at h1
    exact h1
  have HO9 := Lib.hid ho9
  have HP9 := Lib.hid hp9
  have HW9 := Lib.hid hW9
  have b0 : W9.cell? ⟨d.b, 0, none⟩ = some (.pointer (some ⟨d.p, 0, none⟩)) := rg_cell ((ho9.block _ HBL.out.lt.1 HOK.out.bp).trans HBL.out.blk)
  clear ho9 hp9 hW9 hpr
  refine wpAnyL_ready (rs := [9]) (by kernel_rfl) (by simp) ?_
  refine AllReadyL.store (o := _) rfl (by decide) (by decide) (fun K hK => ?_) AllReadyL.nil
  go_simp
  refine hK.out _ _ ?_
  clear hK K
  try simp only [nrm]
  refine wpAnyL_done (by kernel_rfl) ?_ _
  rw [HW9.out]
  clear HW9
  go_wp2_with fail
  go_ret2
  have hpf := HPC.out.f
  have hpl := HPC.out.l
  have hbf := HPC.out.bf
  have hbl := HPC.out.bl
  have hsz3 : w3.drew.heap.size = w3.heap.size := rfl
  have hl := HBL3.out.lt
  refine ⟨⟨d.p, d.m, d.L, d.t, d.a, d.h, gf, gl⟩, rfl, ⟨HP9.out, (HBL.out.tk.onl HO9.out HOK.out.pt.symm).congr (fun c x _ _ => by simp), (HBL.out.ah.onl HO9.out HOK.out.pa.symm).congr (fun c x _ _ => by simp), (HBL.out.bh.onl HO9.out HOK.out.ph.symm).congr (fun c x _ _ => by simp), hpf.onl HO9.out (by show gf ≠ d.p; omega), hpl.onl HO9.out (by show gl ≠ d.p; omega), HBL.out.dz.kept (HO9.out.block _ HBL.out.dz.lt (by have := dz_ne HBL.out.dz HBL.out.prog (by unfold Bd.prog; simp); exact this.symm)), HOK.out.m, HDL.out.trans HSL.out.2.symm, HOK.out.L⟩, ?_⟩
  have hB9 : Below w.heap.size w3 W9 := by
    have h1 : Below w.heap.size w3 w7 := (Below.mono (drew_below w3) (by omega)).trans (HCH.out.below (by omega) (fun k hc => by rcases hc with rfl | rfl | rfl | rfl <;> omega))
    exact h1.trans (HO9.out.below (by omega) (by omega))
  exact HB3.out.trans hB9
end Go.Proofs.YtmlpkimbcjkbkaaGreatDoor
