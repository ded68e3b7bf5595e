/-
  CONTRACTS of the document's own search (scriberef10): ends, loop.
-/
import Derived.Test.YtjjejcgpeefclaaDoorMfT
import Derived.Test.YtjjejcgpeefclaaDoorOrd
import Derived.WalkMore
import Derived.Deep.RegionHeld3
namespace Go.Proofs.YtjjejcgpeefclaaDoor
open Go.RowKit

set_option maxHeartbeats 4000000 in
set_option maxRecDepth 100000 in
theorem rends_of {d : Td} (hd : d.ok) {k : Nat} {t : RT} (hk : (pre d.T)[k]? = some t) (CR : ReckC d k t) : EndsC d k t := by
  intro w a ha hs hy
  have hkl : k < d.N := Td.klt hk
  obtain ⟨p0, p1, p2, p3, p4, p5⟩ := hs.row hk
  obtain ⟨v, e1, f1, hv⟩ := (hy.e k t hk).cell ha
  have hal : a < d.n + 1 := by omega
  have hali : (a : Int) < (d.n : Int) + 1 := by omega
  have hbd := drew_below w
  have HCR := Lib.hid (CR w.drew a ha (hs.chg (Chg.of_below hbd (Nat.le_refl _))) (hy.next hbd))
  have HS := Lib.hid hs
  have HY := Lib.hid hy
  have HD := Lib.hid hd
  have HK := Lib.hid hk
  obtain ⟨ek, hek⟩ : ∃ ek, d.eb k = ek := ⟨_, rfl⟩
  rw [hek] at p4 e1 f1
  have HEK := Lib.hid hek
  clear hs hy CR hek hk hd p0 p1 p3 p5
  rcases hv with rfl | ⟨g, c, rfl, hrow, hnf⟩
  · have hq := fun W => run_inil W
    go_enter Tryd.func45, Tryd.ntmps45
    go_wp2_with fail
    refine wp_region_L (st := [13]) (S := fun Z => Z.cell? ⟨d.p, 2, none⟩ = some (.slice (some ⟨d.be, 0, none⟩) d.N d.ce) ∧ Z.cell? ⟨d.be, k, none⟩ = some (.slice (some ⟨ek, 0, none⟩) (d.n + 1) (d.n + 1))) (by kernel_rfl) (⟨p2, p4⟩) (fun hHeld => ?_)
    refine tkL 0 (v := ?_) rfl ?_ ?_
    rotate_left
    · (intro w hSw; obtain ⟨q2, q4⟩ := hSw; go_simp; try with_reducible rfl)
    try simp only [nrm]
    refine tkL 1 (v := ?_) rfl ?_ ?_
    rotate_left
    · (intro w hSw; obtain ⟨q2, q4⟩ := hSw; go_simp; try with_reducible rfl)
    try simp only [nrm]
    refine tkL 2 (v := ?_) rfl ?_ ?_
    rotate_left
    · (intro w hSw; obtain ⟨q2, q4⟩ := hSw; go_simp; try with_reducible rfl)
    try simp only [nrm]
    refine tkL 3 (v := ?_) rfl ?_ ?_
    rotate_left
    · (intro w hSw; obtain ⟨q2, q4⟩ := hSw; go_simp; try with_reducible rfl)
    try simp only [nrm]
    refine tkL 4 (v := ?_) rfl ?_ ?_
    rotate_left
    · (intro w hSw; obtain ⟨q2, q4⟩ := hSw; go_simp; try with_reducible rfl)
    try simp only [nrm]
    refine tkL 5 (v := ?_) rfl ?_ ?_
    rotate_left
    · (intro w hSw; obtain ⟨q2, q4⟩ := hSw; go_simp; try with_reducible rfl)
    try simp only [nrm]
    refine tkL 6 (v := ?_) rfl ?_ ?_
    rotate_left
    · (intro w hSw; obtain ⟨q2, q4⟩ := hSw; go_simp; try with_reducible rfl)
    try simp only [nrm]
    refine tkL 7 (v := ?_) rfl ?_ ?_
    rotate_left
    · (intro w hSw; obtain ⟨q2, q4⟩ := hSw; go_simp; try with_reducible rfl)
    try simp only [nrm]
    refine tkL 8 (v := ?_) rfl ?_ ?_
    rotate_left
    · (intro w hSw; obtain ⟨q2, q4⟩ := hSw; go_simp; try with_reducible rfl)
    try simp only [nrm]
    refine tkL 9 (v := ?_) rfl ?_ ?_
    rotate_left
    · (intro w hSw; obtain ⟨q2, q4⟩ := hSw; go_simp; try with_reducible rfl)
    try simp only [nrm]
    refine tkL 10 (v := ?_) rfl ?_ ?_
    rotate_left
    · (intro w hSw; obtain ⟨q2, q4⟩ := hSw; go_simp; try with_reducible rfl)
    try simp only [nrm]
    refine rdL 11 rfl (fun K hK => ?_)
    go_simp
    refine HCR.out.mono ?_
    rintro e w3 ⟨g, c, rfl, hob⟩
    have hp2 : w3.cell? ⟨d.p, 2, none⟩ = some (.slice (some ⟨d.be, 0, none⟩) d.N d.ce) := cell_kept p2 (hob.ch.block _ HS.out.plt HS.out.fp)
    have hp4 : w3.cell? ⟨d.be, k, none⟩ = some (.slice (some ⟨ek, 0, none⟩) (d.n + 1) (d.n + 1)) := cell_kept p4 (hob.ch.block _ HS.out.lt.2.1 HS.out.fe)
    have HOB := Lib.hid hob
    clear hob HCR
    refine hK.out _ _ (⟨hp2, hp4⟩) (fun hHeld => ?_)
    clear hK K
    try simp only [nrm]
    refine tkL 12 (v := ?_) rfl ?_ ?_
    rotate_left
    · (intro w hSw; obtain ⟨q2, q4⟩ := hSw; go_simp; try with_reducible rfl)
    try simp only [nrm]
    obtain ⟨v3, g1, g2, -⟩ := (HOB.out.dy.e k t HK.out).cell ha
    rw [HEK.out] at g1 g2
    refine wpAnyL_ready (rs := [13]) (by kernel_rfl) (by simp) ?_
    refine AllReadyL.store (o := _) rfl (by decide) (by decide) (fun K hK => ?_) AllReadyL.nil
    go_simp
    refine hK.out _ _ ?_
    clear hK K
    try simp only [nrm]
    refine wpAnyL_done (by kernel_rfl) ?_ _
    generalize hL : (lstE d t a).length = L at *
    have hdy : Dy (w3.setCell ⟨ek, a, none⟩ (.slice (some ⟨g, 0, none⟩) L c)) d := by
      rw [← hL, ← HEK.out]
      exact HOB.out.dy.setE HD.out HK.out (.inr ⟨g, c, rfl, HOB.out.row, HOB.out.nf⟩)
    have hFe : d.F ek := ⟨k, hkl, .inl HEK.out.symm⟩
    have hch : Chg d.F w3 (w3.setCell ⟨ek, a, none⟩ (.slice (some ⟨g, 0, none⟩) L c)) := set_chg hFe _
    have q2 : (w3.setCell ⟨ek, a, none⟩ (.slice (some ⟨g, 0, none⟩) L c)).cell? ⟨d.p, 2, none⟩ = some (.slice (some ⟨d.be, 0, none⟩) d.N d.ce) := cell_kept hp2 (Below.heap_setCell _ _ _ _ fun e => HS.out.fp (by have e2 : d.p = ek := e; rw [e2]; exact hFe))
    have q4 : (w3.setCell ⟨ek, a, none⟩ (.slice (some ⟨g, 0, none⟩) L c)).cell? ⟨d.be, k, none⟩ = some (.slice (some ⟨ek, 0, none⟩) (d.n + 1) (d.n + 1)) := cell_kept hp4 (Below.heap_setCell _ _ _ _ fun e => HS.out.fe (by have e2 : d.be = ek := e; rw [e2]; exact hFe))
    have HZ : Hid (EndP d w (lstE d t a) (.returned (.slice (some ⟨g, 0, none⟩) L c)) (w3.setCell ⟨ek, a, none⟩ (.slice (some ⟨g, 0, none⟩) L c))) := Lib.hid ⟨g, c, by rw [hL], HOB.out.row.kept (hch.block _ HOB.out.row.base.2 HOB.out.nf), HOB.out.nf, hdy, ((Chg.of_below hbd (Nat.le_refl _)).then HOB.out.ch).then hch⟩
    have q6 : (w3.setCell ⟨ek, a, none⟩ (.slice (some ⟨g, 0, none⟩) L c)).cell? ⟨ek, a, none⟩ = some (.slice (some ⟨g, 0, none⟩) L c) := by
      obtain ⟨arr, h1, h2, -⟩ := HOB.out.dy.e k t HK.out
      rw [HEK.out] at h1
      rw [rg_cell (rg_setCell h1 _)]
      simp [h2, hal]
    clear hdy hch HOB hFe hL
    go_wp2_with fail
    go_ret
    exact HZ.out
  · have hq := fun (n : Nat) W => run_isome g n c W
    have HZ : Hid (EndP d w (lstE d t a) (.returned (.slice (some ⟨g, 0, none⟩) (lstE d t a).length c)) w) := Lib.hid ⟨g, c, rfl, hrow, hnf, HY.out, Chg.refl _ _⟩
    generalize (lstE d t a).length = L at *
    clear HCR hrow hnf
    go_enter Tryd.func45, Tryd.ntmps45
    go_wp2_with fail
    go_ret
    exact HZ.out
theorem ups_congr2 {P Q : Nat → Prop} {n : Nat} (h : ∀ x, x < n → (P x ↔ Q x)) : ups P n = ups Q n := by
  induction n with
  | zero => simp [ups]
  | succ n ih =>
    have h1 := ih fun x hx => h x (by omega)
    by_cases hP : P n
    · rw [ups_on hP, ups_on ((h n (by omega)).1 hP), h1]
    · rw [ups_off hP, ups_off (fun hq => hP ((h n (by omega)).2 hq)), h1]
/-- Where loop comes, the first i places of the kid being gone through. -/
def LP (R : Nat → Nat → Prop) (E : List Nat) (a i y : Nat) : Prop := a = y ∨ ∃ m j, m < i ∧ E[m]? = some j ∧ a < j ∧ Often R j y
theorem LP.zero {R : Nat → Nat → Prop} {E : List Nat} {a n : Nat} (h : a ≤ n) : ups (LP R E a 0) (n + 1) = [a] := by
  rw [ups_congr (Q := fun y => a = y) (fun y => ⟨fun h => h.elim id fun ⟨m, j, hm, _⟩ => by omega, .inl⟩)]
  exact ups_one h
theorem LP.more {R : Nat → Nat → Prop} {E : List Nat} {a i j n : Nat} (he : E[i]? = some j) (hj : a < j) : ups (fun y => LP R E a i y ∨ Often R j y) n = ups (LP R E a (i + 1)) n := by
  refine ups_congr (fun y => ⟨?_, ?_⟩) n
  · rintro ((h | ⟨m, x, h1, h2, h3, h4⟩) | h)
    · exact .inl h
    · exact .inr ⟨m, x, by omega, h2, h3, h4⟩
    · exact .inr ⟨i, j, by omega, he, hj, h⟩
  · rintro (h | ⟨m, x, h1, h2, h3, h4⟩)
    · exact .inl (.inl h)
    · by_cases e : m = i
      · subst e
        rw [he] at h2; cases h2
        exact .inr h4
      · exact .inl (.inr ⟨m, x, by omega, h2, h3, h4⟩)
theorem LP.skip {R : Nat → Nat → Prop} {E : List Nat} {a i j n : Nat} (he : E[i]? = some j) (hj : ¬ a < j) : ups (LP R E a i) n = ups (LP R E a (i + 1)) n := by
  refine ups_congr (fun y => ⟨?_, ?_⟩) n
  · rintro (h | ⟨m, x, h1, h2, h3, h4⟩)
    · exact .inl h
    · exact .inr ⟨m, x, by omega, h2, h3, h4⟩
  · rintro (h | ⟨m, x, h1, h2, h3, h4⟩)
    · exact .inl h
    · by_cases e : m = i
      · subst e
        rw [he] at h2; cases h2
        exact absurd h3 hj
      · exact .inr ⟨m, x, by omega, h2, h3, h4⟩
theorem ups_at_mem {P : Nat → Prop} {n x : Nat} : (∃ i : Nat, (ups P n)[i]? = some x) ↔ x < n ∧ P x := by
  rw [← ups_mem (Q := P) n, List.mem_iff_getElem?]
theorem LP.all {R : Nat → Nat → Prop} (hR : ∀ i j, R i j → i ≤ j) {a n : Nat} : ups (LP R (ups (R a) (n + 1)) a (ups (R a) (n + 1)).length) (n + 1) = ups (Often R a) (n + 1) := by
  refine ups_congr2 fun y hy => ?_
  rw [often_iff hR]
  constructor
  · rintro (h | ⟨m, x, h1, h2, h3, h4⟩)
    · exact .inl h
    · exact .inr ⟨x, h3, (ups_at_mem.1 ⟨m, h2⟩).2, h4⟩
  · rintro (h | ⟨x, h1, h2, h3⟩)
    · exact .inl h
    · have := h3.le hR
      obtain ⟨m, hm⟩ := ups_at_mem.2 (show x < n + 1 ∧ R a x from ⟨by omega, h2⟩)
      exact .inr ⟨m, x, (List.getElem?_eq_some_iff.1 hm).1, hm, h1, h3⟩
theorem lstO_one {d : Td} {t u : RT} (h : t.kids = [u]) (a : Nat) : lstO d t a = ups (Often (Lead (gS d.s) d.n u) a) (d.n + 1) := by unfold lstO; rw [h, catL_one_eq]
set_option maxHeartbeats 4000000 in
set_option maxRecDepth 100000 in
theorem rloop_of {d : Td} (hd : d.ok) {k : Nat} {t : RT} (hk : (pre d.T)[k]? = some t) {u : RT} (htk : t.kids = [u]) (CE : ∀ j, (pre d.T)[j]? = some u → EndsC d j u) :
    ∀ (m : Nat) (w : World) (a : Nat), d.n - a < m → a ≤ d.n → St w d → Dy w d → Calls Tryd.prog 73 #[.pointer (some ⟨d.p, 0, none⟩), .int .i64 (k : Int), .int .i64 (a : Int)] w (EndP d w (lstO d t a)) := by
  intro m
  induction m with
  | zero => intro w a h; omega
  | succ m ih =>
  intro w a hm ha hs hy
  have hkl : k < d.N := Td.klt hk
  obtain ⟨p0, p1, p2, p3, p4, p5⟩ := hs.row hk
  obtain ⟨v, e1, f1, hv⟩ := (hy.o k t hk).cell ha
  have hal : a < d.n + 1 := by omega
  have hali : (a : Int) < (d.n : Int) + 1 := by omega
  obtain ⟨S, kp, kc, r1, r2, r3, -, r5⟩ := hs.part k t hk
  obtain ⟨g0, j0, rfl, hg0, hgl, r4, hj0⟩ := r5 0 u (by rw [htk]; rfl)
  rw [htk] at r3
  have r3 : w.cell? ⟨d.bl, k * 3 + 2, none⟩ = some (.slice (some ⟨g0, 0, none⟩) 1 kc) := r3
  have HS := Lib.hid hs
  have HY := Lib.hid hy
  have HD := Lib.hid hd
  have HK := Lib.hid hk
  have HIH := Lib.hid ih
  have HCE := Lib.hid (CE j0 hj0)
  have hn := hd.n
  obtain ⟨ok, hok⟩ : ∃ ok, d.ob k = ok := ⟨_, rfl⟩
  rw [hok] at p5 e1 f1
  have HOK := Lib.hid hok
  clear hs hy CE hok hk hd p0 p2 p4 r1 r2 r5 ih hj0
  rcases hv with rfl | ⟨g, c, rfl, hrow, hnf⟩
  · have hq := fun W => run_inil W
    obtain ⟨W1, hW1⟩ : ∃ W1, w.alloc (.cells #[.int .i64 (a : Int)] 3) = W1 := ⟨_, rfl⟩
    have hb1 : Below w.heap.size w W1 := by rw [← hW1]; exact (Below.refl _ _).alloc (Nat.le_refl _) _
    have hr1 : RowI W1 w.heap.size w.heap.size 1 [a] := by rw [← hW1]; exact RowI.new w [a] _ (Nat.le_refl _) (by simp)
    have hc1 : Chg d.F w W1 := Chg.of_below hb1 (Nat.le_refl _)
    have HOB1 : Hid (Ob w W1 d w.heap.size 1 [a]) := Lib.hid (Ob.start HY.out (Chg.refl _ _) hr1 hb1)
    have t1 : W1.cell? ⟨d.p, 1, none⟩ = some (.slice (some ⟨d.bl, 0, none⟩) d.N d.cl) := cell_kept p1 (hc1.block _ HS.out.plt HS.out.fp)
    have t3 : W1.cell? ⟨d.bl, k * 3 + 2, none⟩ = some (.slice (some ⟨g0, 0, none⟩) 1 kc) := cell_kept r3 (hc1.block _ HS.out.lt.1 HS.out.fl)
    have t4 : W1.cell? ⟨g0, 0, none⟩ = some (.int .i64 (j0 : Int)) := cell_kept r4 (hc1.block _ hgl hg0)
    have HCE1 := Lib.hid (HCE.out W1 a ha (HS.out.chg hc1) HOB1.out.dy)
    have HW1 := Lib.hid hW1
    have HB1 := Lib.hid hb1
    clear hb1 hr1 hc1 hW1 HCE
    go_enter Tryd.func73, Tryd.ntmps73
    go_upto_region 3 with fail
    rw [HW1.out]
    clear HW1 e1 f1
    go_wp2_with fail
    refine HCE1.out.mono ?_
    rintro e w2 ⟨gE, cE, rfl, hobE⟩
    obtain ⟨hob1, hobE⟩ := HOB1.out.then hobE
    have HOB2 := Lib.hid hob1
    have HOE := Lib.hid hobE
    obtain ⟨LE, hLE⟩ : ∃ LE, lstE d u a = LE := ⟨_, rfl⟩
    have HLE := Lib.hid hLE
    rw [hLE] at HOE
    have hEl : LE.length ≤ d.n + 1 := by rw [← hLE]; exact ups_lenle _ _
    rw [hLE]
    obtain ⟨nE, hnE⟩ : ∃ nE, LE.length = nE := ⟨_, rfl⟩
    rw [hnE] at hEl ⊢
    have HNE := Lib.hid hnE
    clear hLE hnE hob1 hobE HOB1 HCE1 t1 t3 t4
    go_wp2_with fail
    go_loopw [7, 37] (fun ov iv wr => ∃ (i g c : Nat), i ≤ nE ∧ ov = .slice (some ⟨g, 0, none⟩) (ups (LP (Lead (gS d.s) d.n u) LE a i) (d.n + 1)).length c ∧ iv = .int .i64 (i : Int) ∧ Hid (Ob w wr d g c (ups (LP (Lead (gS d.s) d.n u) LE a i) (d.n + 1))) ∧ Hid (RowI wr 0 gE cE LE ∧ ¬ d.F gE))
      (fun _ iv _ => nE - (intOf iv).toNat)
    case atStart =>
      have h0 : ups (LP (Lead (gS d.s) d.n u) LE a 0) (d.n + 1) = [a] := LP.zero ha
      exact ⟨0, w.heap.size, 1, Nat.zero_le _, by rw [h0]; rfl, rfl, Lib.hid (by rw [h0]; exact HOB2.out), Lib.hid ⟨HOE.out.row, HOE.out.nf⟩⟩
    case round =>
      obtain ⟨i, g, c, hi, rfl, rfl, HB, HRE⟩ := hrel
      clear HOB2 HOE
      by_cases hil : i < nE
      · have hil2 : i < LE.length := by rw [HNE.out]; exact hil
        obtain ⟨j, hj⟩ : ∃ j, LE[i]? = some j := ⟨_, List.getElem?_eq_getElem hil2⟩
        have q1 : wr.cell? ⟨gE, i, none⟩ = some (.int .i64 (j : Int)) := HRE.out.1.cell hj
        have hjn : j < d.n + 1 := by
          have := (ups_at_mem (P := Lead (gS d.s) d.n u a) (n := d.n + 1) (x := j)).1 ⟨i, by rw [show ups (Lead (gS d.s) d.n u a) (d.n + 1) = LE from HLE.out]; exact hj⟩
          exact this.1
        by_cases haj : a < j
        · have haj2 : (a : Int) < (j : Int) := by omega
          have HL := Lib.hid (HIH.out wr j (by omega) (by omega) (HS.out.chg HB.out.ch) HB.out.dy)
          have HM := Lib.hid (LP.more (R := Lead (gS d.s) d.n u) (n := d.n + 1) hj haj)
          clear hj
          generalize hm1 : (ups (LP (Lead (gS d.s) d.n u) LE a i) (d.n + 1)).length = m1 at *
          have HM1 := Lib.hid hm1
          clear hm1
          go_wp2_with fail
          refine HL.out.mono ?_
          rintro e w3 ⟨g3, c3, rfl, hob3⟩
          obtain ⟨ho1, ho3⟩ := HB.out.then hob3
          have HO1 := Lib.hid ho1
          have HO3 := Lib.hid ho3
          have HRE3 : Hid (RowI w3 0 gE cE LE ∧ ¬ d.F gE) := Lib.hid ⟨HRE.out.1.kept (hob3.ch.block _ HRE.out.1.base.2 HRE.out.2), HRE.out.2⟩
          have HBT := Lib.hid (rboth_any (P := LP (Lead (gS d.s) d.n u) LE a i) (Q := Often (Lead (gS d.s) d.n u) j) (N := d.n + 1) (by omega) ho1.row (by
            have := ho3.row
            rw [lstO_one htk] at this
            exact this))
          rw [← lstO_one htk, HM1.out] at HBT
          clear hob3 ho1 ho3 HB HRE HL q1
          go_wp2_with fail
          refine HBT.out.mono ?_
          rintro e w4 ⟨g4, c4, rfl, hr4, hb4⟩
          rw [HM.out] at hr4 ⊢
          have HO4 : Hid (Ob w w4 d g4 c4 _) := Lib.hid (HO1.out.fresh hr4 hb4)
          have HRE4 : Hid (RowI w4 0 gE cE LE ∧ ¬ d.F gE) := Lib.hid ⟨HRE3.out.1.next hb4, HRE3.out.2⟩
          clear hr4 hb4 HBT HO1 HO3 HRE3
          go_wp2_with fail
          go_roundw
          case rel => exact ⟨i + 1, g4, c4, by omega, rfl, by go_num, HO4, HRE4⟩
          case measure => simp [intOf]; omega
        · have haj2 : ¬ (a : Int) < (j : Int) := by omega
          have HM := Lib.hid (LP.skip (R := Lead (gS d.s) d.n u) (n := d.n + 1) hj haj)
          clear hj
          go_wp2_with fail
          go_roundw
          case rel => exact ⟨i + 1, g, c, by omega, by rw [HM.out], by go_num, by rw [← HM.out]; exact HB, HRE⟩
          case measure => simp [intOf]; omega
      · obtain rfl : i = nE := by omega
        have HOA : Hid (Ob w wr d g c (lstO d t a)) := Lib.hid (HB.out.as (by
          rw [lstO_one htk, ← HNE.out]
          have := LP.all (R := Lead (gS d.s) d.n u) (fun i j h => Lead.le _ _ _ _ _ h) (a := a) (n := d.n)
          rw [show ups (Lead (gS d.s) d.n u a) (d.n + 1) = LE from HLE.out] at this
          exact this))
        have hlen : (ups (LP (Lead (gS d.s) d.n u) LE a i) (d.n + 1)).length = (lstO d t a).length := by
          rw [lstO_one htk, ← HNE.out]
          have := LP.all (R := Lead (gS d.s) d.n u) (fun i j h => Lead.le _ _ _ _ _ h) (a := a) (n := d.n)
          rw [show ups (Lead (gS d.s) d.n u a) (d.n + 1) = LE from HLE.out] at this
          rw [this]
        rw [hlen]
        clear hlen HB HRE
        have t3 : wr.cell? ⟨d.p, 3, none⟩ = some (.slice (some ⟨d.bo, 0, none⟩) d.N d.co) := cell_kept p3 (HOA.out.ch.block _ HS.out.plt HS.out.fp)
        have t5 : wr.cell? ⟨d.bo, k, none⟩ = some (.slice (some ⟨ok, 0, none⟩) (d.n + 1) (d.n + 1)) := cell_kept p5 (HOA.out.ch.block _ HS.out.lt.2.2 HS.out.fo)
        obtain ⟨v3, g1, g2, -⟩ := (HOA.out.dy.o k t HK.out).cell ha
        rw [HOK.out] at g1 g2
        obtain ⟨L, hL⟩ : ∃ L, (lstO d t a).length = L := ⟨_, rfl⟩
        rw [hL]
        have hdy : Dy (wr.setCell ⟨ok, a, none⟩ (.slice (some ⟨g, 0, none⟩) L c)) d := by
          rw [← hL, ← HOK.out]
          exact HOA.out.dy.setO HD.out HK.out (.inr ⟨g, c, rfl, HOA.out.row, HOA.out.nf⟩)
        have hFe : d.F ok := ⟨k, hkl, .inr HOK.out.symm⟩
        have hch : Chg d.F wr (wr.setCell ⟨ok, a, none⟩ (.slice (some ⟨g, 0, none⟩) L c)) := set_chg hFe _
        have q2 : (wr.setCell ⟨ok, a, none⟩ (.slice (some ⟨g, 0, none⟩) L c)).cell? ⟨d.p, 3, none⟩ = some (.slice (some ⟨d.bo, 0, none⟩) d.N d.co) := cell_kept t3 (Below.heap_setCell _ _ _ _ fun e => HS.out.fp (by have e2 : d.p = ok := e; rw [e2]; exact hFe))
        have q4 : (wr.setCell ⟨ok, a, none⟩ (.slice (some ⟨g, 0, none⟩) L c)).cell? ⟨d.bo, k, none⟩ = some (.slice (some ⟨ok, 0, none⟩) (d.n + 1) (d.n + 1)) := cell_kept t5 (Below.heap_setCell _ _ _ _ fun e => HS.out.fo (by have e2 : d.bo = ok := e; rw [e2]; exact hFe))
        have HZ : Hid (EndP d w (lstO d t a) (.returned (.slice (some ⟨g, 0, none⟩) L c)) (wr.setCell ⟨ok, a, none⟩ (.slice (some ⟨g, 0, none⟩) L c))) := Lib.hid ⟨g, c, by rw [hL], HOA.out.row.kept (hch.block _ HOA.out.row.base.2 HOA.out.nf), HOA.out.nf, hdy, HOA.out.ch.then hch⟩
        have q6 : (wr.setCell ⟨ok, a, none⟩ (.slice (some ⟨g, 0, none⟩) L c)).cell? ⟨ok, a, none⟩ = some (.slice (some ⟨g, 0, none⟩) L c) := by
          obtain ⟨arr, h1, h2, -⟩ := HOA.out.dy.o k t HK.out
          rw [HOK.out] at h1
          rw [rg_cell (rg_setCell h1 _)]
          simp [h2, hal]
        clear hdy hch HOA hFe hL
        go_wp2_with fail
        go_ret
        exact HZ.out
  · have hq := fun (n : Nat) W => run_isome g n c W
    have HZ : Hid (EndP d w (lstO d t a) (.returned (.slice (some ⟨g, 0, none⟩) (lstO d t a).length c)) w) := Lib.hid ⟨g, c, rfl, hrow, hnf, HY.out, Chg.refl _ _⟩
    generalize (lstO d t a).length = L at *
    clear hrow hnf HCE HIH
    go_enter Tryd.func73, Tryd.ntmps73
    go_wp2_with fail
    go_ret
    exact HZ.out
end Go.Proofs.YtjjejcgpeefclaaDoor
