/-
  CONTRACTS of layer 10: what is seen of a text: row, spot, see.
-/
import Derived.Test.YtmlpkimbcjkbkaaGreatDoorMtS
import Derived.Test.YtmlpkimbcjkbkaaGreatDoorMtW4
namespace Go.Proofs.YtmlpkimbcjkbkaaGreatDoor
open Go.RowKit

/-- What is seen, as a value: the program, from which place on, the text's size, the rows' block. -/
def seV (d : Pd) (fr N g : Nat) : Value := .agg #[.pointer (some ⟨d.p, 0, none⟩), .int .i64 (fr : Int), .int .i64 (N : Int), .int .i64 (d.m : Int), .slice (some ⟨g, 0, none⟩) ((N - fr + 1) * d.m) ((N - fr + 1) * d.m)]
/-- And in memory. -/
structure Sn (w : World) (d : Pd) (t : RT) (s : ByteArray) (fr g : Nat) : Prop where
  pg : Pg w d t
  rows : Tb w g (s.size - fr + 1) d.m (fun r x => RowS s t (fr + r) x)
theorem Sn.kept {w w' : World} {d : Pd} {t : RT} {s : ByteArray} {fr g : Nat} (h : Sn w d t s fr g) (hk : ∀ k, k = d.p ∨ k = d.t ∨ k = d.a ∨ k = d.h ∨ k = d.f ∨ k = d.l ∨ k = g ∨ k = (0 : Nat) → k < w.heap.size → w'.heap[k]? = w.heap[k]?) : Sn w' d t s fr g :=
  ⟨h.pg.kept fun k hk' hl => hk k (by rcases hk' with h | h | h | h | h | h | h <;> simp [h]) hl, h.rows.kept (hk g (by simp) h.rows.lt)⟩
theorem Sn.next {w w' : World} {d : Pd} {t : RT} {s : ByteArray} {fr g : Nat} (h : Sn w d t s fr g) (hb : Below w.heap.size w w') : Sn w' d t s fr g := h.kept fun k _ hl => hb.block k hl
set_option maxHeartbeats 2000000 in
theorem msrow_any (d : Pd) (fr N g i : Nat) (hm : d.m ≤ 100) (hfi : fr ≤ i) (hi : i ≤ N) (hN : N ≤ 1000000) (w : World) :
    Calls Tryz.prog 39 #[seV d fr N g, .int .i64 (i : Int)] w fun e w' => e = .returned (rwV g (N - fr + 1) d.m (i - fr)) ∧ Below w.heap.size w w' := by
  have hR : (N - fr + 1) * d.m ≤ 1000000000 := by
    have := Nat.mul_le_mul (show N - fr + 1 ≤ 1000001 by omega) hm
    omega
  have CR := Lib.hid fun W => mrow_any g (N - fr + 1) d.m (i - fr) (by omega) hR (by omega) W
  unfold tbV at CR
  unfold seV
  have e1 : (i : Int) - (fr : Int) = ((i - fr : Nat) : Int) := by omega
  generalize (N - fr + 1) * d.m = n at *
  have hN2 : (N : Int) ≤ 1000000 := by omega
  have hi2 : (i : Int) ≤ 1000000 := by omega
  go_enter Tryz.func39, Tryz.ntmps39
  go_wp2_with fail
  refine (CR.out _).mono ?_
  rintro e w2 ⟨rfl, rfl⟩
  unfold rwV
  go_wp2_with fail
  go_ret
  exact ⟨rfl, ((Below.refl _ _).alloc (Nat.le_refl _) _).alloc (by simp) _⟩
set_option maxHeartbeats 2000000 in
theorem msspot_any (d : Pd) (fr N g i : Nat) (hi : i ≤ 1000001) (hN : N ≤ 1000000) (w : World) :
    Calls Tryz.prog 42 #[seV d fr N g, .int .i64 (i : Int)] w fun e w' => e = .returned (.int .i64 (spotN i N : Nat)) ∧ Below w.heap.size w w' := by
  have CR := Lib.hid fun W => mspot_any i N (by omega) (by omega) W
  unfold seV
  generalize spotN i N = sp at *
  generalize (N - fr + 1) * d.m = n at *
  go_enter Tryz.func42, Tryz.ntmps42
  go_wp2_with fail
  refine (CR.out _).mono ?_
  rintro e w2 ⟨rfl, rfl⟩
  go_wp2_with fail
  go_ret
  exact ⟨rfl, (Below.refl _ _).alloc (Nat.le_refl _) _⟩
/-- What see answers. -/
def SeePost (w : World) (d : Pd) (t : RT) (s : ByteArray) (fr : Nat) (e : Ending) (w' : World) : Prop := ∃ g, e = .returned (seV d fr s.size g) ∧ Sn w' d t s fr g ∧ w.heap.size ≤ g ∧ Below w.heap.size w w'
theorem Pg.lt {w : World} {d : Pd} {t : RT} (h : Pg w d t) : d.p < w.heap.size ∧ d.t < w.heap.size ∧ d.a < w.heap.size ∧ d.h < w.heap.size ∧ d.f < w.heap.size ∧ d.l < w.heap.size := ⟨(Array.getElem?_eq_some_iff.1 h.prog).1, h.tk.lt, h.ah.lt, h.bh.lt, h.f.lt, h.l.lt⟩
set_option maxHeartbeats 4000000 in
set_option maxRecDepth 100000 in
theorem msee_any (s : ByteArray) (hs : s.size ≤ 1000000) (fr : Nat) (hfr : fr ≤ s.size) {w : World} {d : Pd} {t : RT} (h : Pg w d t) :
    Calls Tryz.prog 15 #[.pointer (some ⟨d.p, 0, none⟩), .string s, .int .i64 (fr : Int)] w (SeePost w d t s fr) := by
  have hm := h.m
  have hlt := h.lt
  have hdz := h.dz.lt
  obtain ⟨R, hR⟩ : ∃ R, s.size - fr + 1 = R := ⟨_, rfl⟩
  have hRm : R * d.m ≤ 1000000000 := by
    have := Nat.mul_le_mul (show R ≤ 1000001 by omega) hm
    omega
  have hLm : d.L * d.m ≤ 1000000000 := by
    have := Nat.mul_le_mul (show d.L ≤ 6400 by have := h.Lm; omega) hm
    omega
  have CT : Hid (∀ W, Calls Tryz.prog 38 #[.int .i64 (R : Int), .int .i64 (d.m : Int)] W fun e w' => ∃ g, e = .returned (.agg #[.int .i64 (d.m : Int), .slice (some ⟨g, 0, none⟩) (R * d.m) (R * d.m)]) ∧ W.heap.size ≤ g ∧ Tb w' g R d.m (fun _ _ => False) ∧ Below W.heap.size W w') := Lib.hid fun W => mtab_any R d.m hRm W
  have hRi : (s.size : Int) - (fr : Int) + 1 = (R : Int) := by omega
  have ES : Value.cells (.agg #[.pointer none, .int .i64 0, .int .i64 0, .int .i64 0, .slice none 0 0]) = #[.pointer none, .int .i64 0, .int .i64 0, .int .i64 0, .slice none 0 0] := rfl
  obtain ⟨W1, hW1⟩ : ∃ W1, w.alloc (.cells #[.pointer none, .int .i64 0, .int .i64 0, .int .i64 0, .slice none 0 0] 54) = W1 := ⟨_, rfl⟩
  have hb1 : Below w.heap.size w W1 := by rw [← hW1]; exact (Below.refl _ _).alloc (Nat.le_refl _) _
  have hz1 : W1.heap.size = w.heap.size + 1 := by rw [← hW1]; simp
  have hx1 : W1.heap[w.heap.size]? = some (.cells #[.pointer none, .int .i64 0, .int .i64 0, .int .i64 0, .slice none 0 0] 54 (0, 0)) := by rw [← hW1]; exact mt_heap_new _ _
  have p0 : W1.cell? ⟨d.p, 0, none⟩ = some (.int .i64 (d.m : Int)) := rg_cell ((hb1.block _ hlt.1).trans h.prog)
  have HX1 := Lib.hid hx1
  have HB1 := Lib.hid hb1
  have HW1 := Lib.hid hW1
  have HPG := Lib.hid h
  have hsi : (s.size : Int) ≤ 1000000 := by omega
  have hfi : (fr : Int) ≤ (s.size : Int) := by omega
  clear ES hx1 hb1 hW1 h
  go_enter Tryz.func15, Tryz.ntmps15
  go_upto_region 1 with fail
  rw [HW1.out]
  clear HW1
  go_wp2_with fail
  refine (CT.out _).mono ?_
  rintro e w2 ⟨g, rfl, hg, ht, hb2⟩
  have hz2 := hb2.size
  have hgl := ht.lt
  obtain ⟨W3, hW3⟩ : ∃ W3, w2.alloc (.cells #[.pointer (some ⟨d.p, 0, none⟩), .int .i64 (fr : Int), .int .i64 (s.size : Int), .int .i64 (d.m : Int), .slice (some ⟨g, 0, none⟩) (R * d.m) (R * d.m)] 54) = W3 := ⟨_, rfl⟩
  have hb3 : Below w2.heap.size w2 W3 := by rw [← hW3]; exact (Below.refl _ _).alloc (Nat.le_refl _) _
  have hz3 : W3.heap.size = w2.heap.size + 1 := by rw [← hW3]; simp
  have HX3 : Hid (W3.heap[w2.heap.size]? = some (.cells #[.pointer (some ⟨d.p, 0, none⟩), .int .i64 (fr : Int), .int .i64 (s.size : Int), .int .i64 (d.m : Int), .slice (some ⟨g, 0, none⟩) (R * d.m) (R * d.m)] 54 (0, 0))) := Lib.hid (by rw [← hW3]; exact mt_heap_new _ _)
  have HT3 := Lib.hid (ht.next hb3)
  have HB3 : Hid (Below w.heap.size w W3) := Lib.hid ((HB1.out.trans (hb2.mono (by omega))).trans (hb3.mono (by omega)))
  have HRZ3 : Hid (W3.heap[w.heap.size]? = some (.cells #[.pointer none, .int .i64 0, .int .i64 0, .int .i64 0, .slice none 0 0] 54 (0, 0))) := Lib.hid ((hb3.block _ (by omega)).trans ((hb2.block _ (by omega)).trans HX1.out))
  have HPG3 : Hid (Pg W3 d t) := Lib.hid (HPG.out.next HB3.out)
  have HW3 := Lib.hid hW3
  clear ht hb2 hb3 hW3 HX1 HB1 HPG CT p0
  go_upto_region 2 with fail
  rw [HW3.out]
  clear HW3
  obtain ⟨gs, hgs⟩ : ∃ gs, w2.heap.size = gs := ⟨_, rfl⟩
  rw [hgs] at HX3 hz3 hgl hz2 ⊢
  clear hgs
  go_wp2_with fail
  go_loopw [8] (fun iv wr => ∃ (k : Nat) (z : Int), k ≤ s.size - fr ∧ iv = .int .i64 z ∧ Hid (z = (s.size : Int) - 1 - (k : Int)) ∧ Hid (Tb wr g R d.m (fun r x => s.size - k ≤ fr + r ∧ RowS s t (fr + r) x) ∧ Onl g W3 wr)) (fun iv _ => ((intOf iv) + 1).toNat)
  case atStart => exact ⟨0, _, Nat.zero_le _, rfl, Lib.hid (by omega), Lib.hid ⟨HT3.out.congr (fun r x hr _ => by
    constructor
    · exact fun h => h.elim
    · rintro ⟨h1, h2⟩; have := h2.lt; omega), Onl.refl _ _⟩⟩
  case round =>
    obtain ⟨k, z, hk, rfl, HZZ, HK⟩ := hrel
    by_cases hkl : k < s.size - fr
    · obtain ⟨i, hi⟩ : ∃ i, s.size - 1 - k = i := ⟨_, rfl⟩
      have hzi : z = (i : Int) := by have := HZZ.out; omega
      subst hzi
      have hii : (fr : Int) ≤ (i : Int) := by omega
      have his : i < s.size := by omega
      have hisi : (i : Int) < (s.size : Int) := by omega
      have hi1 : (i : Int) + 1 = ((i + 1 : Nat) : Int) := by omega
      have HII := Lib.hid (show s.size - k = i + 1 ∧ s.size - (k + 1) = i ∧ fr ≤ i by omega)
      clear hi HZZ
      obtain ⟨W5, hW5⟩ : ∃ x, x = wr := ⟨_, rfl⟩
      subst hW5
      have HS5 : Hid (∀ Z, Onl g W3 Z → Z.heap[gs]? = some (.cells #[.pointer (some ⟨d.p, 0, none⟩), .int .i64 (fr : Int), .int .i64 (s.size : Int), .int .i64 (d.m : Int), .slice (some ⟨g, 0, none⟩) (R * d.m) (R * d.m)] 54 (0, 0)) ∧ Pg Z d t) := Lib.hid fun Z hZ =>
        ⟨(hZ.block gs (by omega) (by omega)).trans HX3.out, HPG3.out.kept fun k hk hl => hZ.block k hl (by rcases hk with rfl | rfl | rfl | rfl | rfl | rfl | rfl <;> omega)⟩
      have CSR : Hid (∀ Z, Calls Tryz.prog 39 #[.agg #[.pointer (some ⟨d.p, 0, none⟩), .int .i64 (fr : Int), .int .i64 (s.size : Int), .int .i64 (d.m : Int), .slice (some ⟨g, 0, none⟩) (R * d.m) (R * d.m)], .int .i64 (i : Int)] Z fun e w' => e = .returned (rwV g R d.m (i - fr)) ∧ Below Z.heap.size Z w') := Lib.hid fun Z => by
        have := msrow_any d fr s.size g i hm HII.out.2.2 (by omega) hs Z
        unfold seV at this
        rw [hR] at this
        exact this
      have CSR1 : Hid (∀ Z, Calls Tryz.prog 39 #[.agg #[.pointer (some ⟨d.p, 0, none⟩), .int .i64 (fr : Int), .int .i64 (s.size : Int), .int .i64 (d.m : Int), .slice (some ⟨g, 0, none⟩) (R * d.m) (R * d.m)], .int .i64 ((i + 1 : Nat) : Int)] Z fun e w' => e = .returned (rwV g R d.m (i + 1 - fr)) ∧ Below Z.heap.size Z w') := Lib.hid fun Z => by
        have := msrow_any d fr s.size g (i + 1) hm (by omega) (by omega) hs Z
        unfold seV at this
        rw [hR] at this
        exact this
      have CSP : Hid (∀ Z, Calls Tryz.prog 42 #[.agg #[.pointer (some ⟨d.p, 0, none⟩), .int .i64 (fr : Int), .int .i64 (s.size : Int), .int .i64 (d.m : Int), .slice (some ⟨g, 0, none⟩) (R * d.m) (R * d.m)], .int .i64 ((i + 1 : Nat) : Int)] Z fun e w' => e = .returned (.int .i64 (spotN (i + 1) s.size : Nat)) ∧ Below Z.heap.size Z w') := Lib.hid fun Z => by
        have := msspot_any d fr s.size g (i + 1) (by omega) hs Z
        unfold seV at this
        rw [hR] at this
        exact this
      rw [← hi1] at CSR1 CSP
      clear hi1
      have hwi : IntKind.i64.wrap ((i : Int) + 1) = (i : Int) + 1 := by rw [IntKind.wrap_i64]; omega
      have hrl : i - fr < R := by omega
      have hr1 : i + 1 - fr < R := by omega
      have HRI := Lib.hid (show ∀ r, r < R → (i + 1 ≤ fr + r ↔ i - fr + 1 ≤ r) ∧ (r = i - fr → fr + r = i) ∧ fr + (i + 1 - fr) = i + 1 ∧ i + 1 - fr = i - fr + 1 from fun r _ => by have := HII.out.2.2; omega)
      have hsp := spotN_lt (i + 1) s.size
      obtain ⟨sp, hspe⟩ : ∃ sp, spotN (i + 1) s.size = sp := ⟨_, rfl⟩
      have HSP := Lib.hid hspe
      rw [hspe] at CSP hsp
      have hq := (HS5.out _ HK.out.2).1
      have s0 : W5.cell? ⟨gs, 0, none⟩ = some (.pointer (some ⟨d.p, 0, none⟩)) := rg_cell hq
      have s1 : W5.cell? ⟨gs, 1, none⟩ = some (.int .i64 (fr : Int)) := rg_cell hq
      have s2 : W5.cell? ⟨gs, 2, none⟩ = some (.int .i64 (s.size : Int)) := rg_cell hq
      have s3 : W5.cell? ⟨gs, 3, none⟩ = some (.int .i64 (d.m : Int)) := rg_cell hq
      have s4 : W5.cell? ⟨gs, 4, none⟩ = some (.slice (some ⟨g, 0, none⟩) (R * d.m) (R * d.m)) := rg_cell hq
      clear hspe hq
      go_wp2_with fail
      refine (CSR.out _).mono ?_
      rintro e w6 ⟨rfl, hb6⟩
      unfold rwV
      have HK6 : Hid (Tb w6 g R d.m (fun r x => i + 1 ≤ fr + r ∧ RowS s t (fr + r) x) ∧ Onl g W3 w6) := Lib.hid (by
        have := HII.out.1
        rw [← this]
        exact ⟨HK.out.1.next hb6, HK.out.2.trans (Onl.of_below hb6 (Nat.le_refl _))⟩)
      clear hb6 HK s0 s1 s2 s3 s4 CSR
      have HSK6 : Hid (∀ Z, Onl g W3 Z → Z.cell? ⟨gs, 0, none⟩ = some (.pointer (some ⟨d.p, 0, none⟩)) ∧ Z.cell? ⟨gs, 1, none⟩ = some (.int .i64 (fr : Int)) ∧ Z.cell? ⟨gs, 2, none⟩ = some (.int .i64 (s.size : Int)) ∧ Z.cell? ⟨gs, 3, none⟩ = some (.int .i64 (d.m : Int)) ∧ Z.cell? ⟨gs, 4, none⟩ = some (.slice (some ⟨g, 0, none⟩) (R * d.m) (R * d.m)) ∧ Z.cell? ⟨d.p, 13, none⟩ = some (.int .i64 (d.m : Int)) ∧ Z.cell? ⟨d.p, 14, none⟩ = some (.slice (some ⟨d.l, 0, none⟩) (4 * d.m) (4 * d.m))) := Lib.hid fun Z hZ => by
        have e1 := (HS5.out Z hZ).1
        have e2 := (HS5.out Z hZ).2.prog
        exact ⟨rg_cell e1, rg_cell e1, rg_cell e1, rg_cell e1, rg_cell e1, rg_cell e2, rg_cell e2⟩
      have CR6 : Hid (∀ Z, Calls Tryz.prog 41 #[.agg #[.int .i64 (d.m : Int), .slice (some ⟨d.l, 0, none⟩) (4 * d.m) (4 * d.m)], .int .i64 (sp : Int)] Z fun e w' => e = .returned (.slice (some ⟨d.l, rwO 4 d.m sp, none⟩) d.m (4 * d.m - sp * d.m)) ∧ Below Z.heap.size Z w') := Lib.hid fun Z =>
        (mrow_any d.l 4 d.m sp hsp (by omega) (by omega) Z).mono fun e w' ⟨h1, h2⟩ => ⟨h1, by rw [h2]; exact (Below.refl _ _).alloc (Nat.le_refl _) _⟩
      have CJ6 : Hid (∀ Z, Below w6.heap.size w6 Z → Calls Tryz.prog 40 #[.slice (some ⟨g, rwO R d.m (i - fr), none⟩) d.m (R * d.m - (i - fr) * d.m), .slice (some ⟨d.l, rwO 4 d.m sp, none⟩) d.m (4 * d.m - sp * d.m)] Z fun e w' => e = .returned (.tuple #[]) ∧ Tb w' g R d.m (fun r x => (i + 1 ≤ fr + r ∧ RowS s t (fr + r) x) ∨ (r = i - fr ∧ Lst t 0 sp x)) ∧ Sm g Z w') := Lib.hid fun Z hZ =>
        mjoin_any (HK6.out.1.next hZ) (((HS5.out _ HK6.out.2).2.l).next hZ) (by omega) hrl hsp (by omega) (fun h => rwO_eq hrl h) (fun h => rwO_eq hsp h) _ _
      have HH6 := HSK6.out _ (HK6.out.2.trans (Onl.of_below (drew_below w6) (Nat.le_refl _)))
      go_wp2_with fail
      refine wp_region_L (st := []) (S := fun Z => Z.cell? ⟨gs, 0, none⟩ = some (.pointer (some ⟨d.p, 0, none⟩)) ∧ Z.cell? ⟨gs, 1, none⟩ = some (.int .i64 (fr : Int)) ∧ Z.cell? ⟨gs, 2, none⟩ = some (.int .i64 (s.size : Int)) ∧ Z.cell? ⟨gs, 3, none⟩ = some (.int .i64 (d.m : Int)) ∧ Z.cell? ⟨gs, 4, none⟩ = some (.slice (some ⟨g, 0, none⟩) (R * d.m) (R * d.m)) ∧ Z.cell? ⟨d.p, 13, none⟩ = some (.int .i64 (d.m : Int)) ∧ Z.cell? ⟨d.p, 14, none⟩ = some (.slice (some ⟨d.l, 0, none⟩) (4 * d.m) (4 * d.m))) (by kernel_rfl) HH6 (fun hHeld => ?_)
      have HV8 := Lib.hid (drew_below w6)
      clear HH6
      refine tkL 0 (v := ?_) rfl ?_ ?_
      rotate_left
      · (intro w hSw; obtain ⟨q0, q1, q2, q3, q4, q5, q6⟩ := hSw; go_simp; try with_reducible rfl)
      try simp only [nrm]
      refine tkL 1 (v := ?_) rfl ?_ ?_
      rotate_left
      · (intro w hSw; obtain ⟨q0, q1, q2, q3, q4, q5, q6⟩ := hSw; go_simp; try with_reducible rfl)
      try simp only [nrm]
      refine tkL 2 (v := ?_) rfl ?_ ?_
      rotate_left
      · (intro w hSw; obtain ⟨q0, q1, q2, q3, q4, q5, q6⟩ := hSw; go_simp; try with_reducible rfl)
      try simp only [nrm]
      refine tkL 3 (v := ?_) rfl ?_ ?_
      rotate_left
      · (intro w hSw; obtain ⟨q0, q1, q2, q3, q4, q5, q6⟩ := hSw; go_simp; try with_reducible rfl)
      try simp only [nrm]
      refine tkL 4 (v := ?_) rfl ?_ ?_
      rotate_left
      · (intro w hSw; obtain ⟨q0, q1, q2, q3, q4, q5, q6⟩ := hSw; go_simp; try with_reducible rfl)
      try simp only [nrm]
      refine tkL 5 (v := ?_) rfl ?_ ?_
      rotate_left
      · (intro w hSw; obtain ⟨q0, q1, q2, q3, q4, q5, q6⟩ := hSw; go_simp; try with_reducible rfl)
      try simp only [nrm]
      refine tkL 6 (v := ?_) rfl ?_ ?_
      rotate_left
      · (intro w hSw; obtain ⟨q0, q1, q2, q3, q4, q5, q6⟩ := hSw; go_simp; try with_reducible rfl)
      try simp only [nrm]
      refine tkL 7 (v := ?_) rfl ?_ ?_
      rotate_left
      · (intro w hSw; obtain ⟨q0, q1, q2, q3, q4, q5, q6⟩ := hSw; go_simp; try with_reducible rfl)
      try simp only [nrm]
      refine tkL 8 (v := ?_) rfl ?_ ?_
      rotate_left
      · (intro w hSw; obtain ⟨q0, q1, q2, q3, q4, q5, q6⟩ := hSw; go_simp; try with_reducible rfl)
      try simp only [nrm]
      refine rdL 9 rfl (fun K hK => ?_)
      go_simp
      refine (CSP.out _).mono ?_
      rintro e w9 ⟨rfl, hb9⟩
      have HV9 := Lib.hid (HV8.out.trans (hb9.mono HV8.out.size))
      have hH9 := HSK6.out _ (HK6.out.2.trans (Onl.of_below HV9.out (Nat.le_refl _)))
      refine hK.out _ _ hH9 (fun hHeld => ?_)
      clear hK K hb9 HV8 hH9
      have HV8 := HV9
      clear HV9
      try simp only [nrm]
      refine rdL 10 rfl (fun K hK => ?_)
      go_simp
      refine (CR6.out _).mono ?_
      rintro e w9 ⟨rfl, hb9⟩
      have HV9 := Lib.hid (HV8.out.trans (hb9.mono HV8.out.size))
      have hH9 := HSK6.out _ (HK6.out.2.trans (Onl.of_below HV9.out (Nat.le_refl _)))
      refine hK.out _ _ hH9 (fun hHeld => ?_)
      clear hK K hb9 HV8 hH9
      have HV8 := HV9
      clear HV9
      try simp only [nrm]
      refine rdL 11 rfl (fun K hK => ?_)
      go_simp
      refine (CJ6.out _ HV8.out).mono ?_
      rintro e w7 ⟨rfl, ht, hs9⟩
      have HT7 := Lib.hid ht
      have HO6 : Hid (Onl g W3 w7) := Lib.hid ((HK6.out.2.trans (Onl.of_below HV8.out (Nat.le_refl _))).trans hs9.onl)
      clear ht hs9
      refine hK.out _ _ (HSK6.out _ HO6.out) (fun hHeld => ?_)
      clear hK K
      try simp only [nrm]
      refine wpAnyL_done (by kernel_rfl) ?_ _
      clear hHeld HV8 HSK6 CR6 CJ6 HK6 CSP
      have HSK7 : Hid (∀ Z, Onl g W3 Z → Z.cell? ⟨gs, 0, none⟩ = some (.pointer (some ⟨d.p, 0, none⟩)) ∧ Z.cell? ⟨gs, 1, none⟩ = some (.int .i64 (fr : Int)) ∧ Z.cell? ⟨gs, 2, none⟩ = some (.int .i64 (s.size : Int)) ∧ Z.cell? ⟨gs, 3, none⟩ = some (.int .i64 (d.m : Int)) ∧ Z.cell? ⟨gs, 4, none⟩ = some (.slice (some ⟨g, 0, none⟩) (R * d.m) (R * d.m)) ∧ Z.cell? ⟨d.p, 3, none⟩ = some (.int .i64 (d.m : Int)) ∧ Z.cell? ⟨d.p, 4, none⟩ = some (.slice (some ⟨d.a, 0, none⟩) (d.L * d.m) (d.L * d.m))) := Lib.hid fun Z hZ => by
        have e1 := (HS5.out Z hZ).1
        have e2 := (HS5.out Z hZ).2.prog
        exact ⟨rg_cell e1, rg_cell e1, rg_cell e1, rg_cell e1, rg_cell e1, rg_cell e2, rg_cell e2⟩
      have CJ7 : Hid (∀ Z, Below w7.heap.size w7 Z → Calls Tryz.prog 43 #[.slice (some ⟨g, rwO R d.m (i - fr), none⟩) d.m (R * d.m - (i - fr) * d.m), .agg #[.int .i64 (d.m : Int), .slice (some ⟨d.a, 0, none⟩) (d.L * d.m) (d.L * d.m)], .slice (some ⟨g, rwO R d.m (i + 1 - fr), none⟩) d.m (R * d.m - (i + 1 - fr) * d.m)] Z fun e w' => e = .returned (.tuple #[]) ∧ Tb w' g R d.m (fun r x => ((i + 1 ≤ fr + r ∧ RowS s t (fr + r) x) ∨ (r = i - fr ∧ Lst t 0 sp x)) ∨ (r = i - fr ∧ ∃ y, y < 64 * d.m ∧ RowS s t (i + 1) y ∧ Bhd t 0 x y)) ∧ Onl g Z w') := Lib.hid fun Z hZ => by
        have hpg := (HS5.out _ (HO6.out.trans (Onl.of_below hZ (Nat.le_refl _)))).2
        have hhh := HRI.out (i + 1 - fr) hr1
        exact mrows_any (HT7.out.next hZ) hrl (fun h => rwO_eq hrl h) hpg.ah (by omega) hLm (by have := hpg.Lm; omega) hpg.dz (by omega)
          (fun x hx hr => by
            have hzz : tkS s t x (i + 1) := by cases hr <;> assumption
            obtain ⟨h1, h2⟩ := hzz
            have := Tks.range hasP t 0 x _ h2
            have := hpg.L
            omega)
          (fun W P' hT hP _ => ⟨R, i + 1 - fr, P', hr1, fun h => rwO_eq hr1 h, hT, fun x _ => by
            rw [hP _ _ (by omega)]
            rw [hhh.2.2.1]
            constructor
            · rintro (h | h)
              · exact h.2
              · omega
            · exact fun h => .inl ⟨Nat.le_refl _, h⟩⟩) _ _
      have HH7 := HSK7.out _ (HO6.out.trans (Onl.of_below (drew_below w7) (Nat.le_refl _)))
      go_wp2_with fail
      refine wp_region_L (st := []) (S := fun Z => Z.cell? ⟨gs, 0, none⟩ = some (.pointer (some ⟨d.p, 0, none⟩)) ∧ Z.cell? ⟨gs, 1, none⟩ = some (.int .i64 (fr : Int)) ∧ Z.cell? ⟨gs, 2, none⟩ = some (.int .i64 (s.size : Int)) ∧ Z.cell? ⟨gs, 3, none⟩ = some (.int .i64 (d.m : Int)) ∧ Z.cell? ⟨gs, 4, none⟩ = some (.slice (some ⟨g, 0, none⟩) (R * d.m) (R * d.m)) ∧ Z.cell? ⟨d.p, 3, none⟩ = some (.int .i64 (d.m : Int)) ∧ Z.cell? ⟨d.p, 4, none⟩ = some (.slice (some ⟨d.a, 0, none⟩) (d.L * d.m) (d.L * d.m))) (by kernel_rfl) HH7 (fun hHeld => ?_)
      have HV8 := Lib.hid (drew_below w7)
      clear HH7
      refine tkL 0 (v := ?_) rfl ?_ ?_
      rotate_left
      · (intro w hSw; obtain ⟨q0, q1, q2, q3, q4, q5, q6⟩ := hSw; go_simp; try with_reducible rfl)
      try simp only [nrm]
      refine tkL 1 (v := ?_) rfl ?_ ?_
      rotate_left
      · (intro w hSw; obtain ⟨q0, q1, q2, q3, q4, q5, q6⟩ := hSw; go_simp; try with_reducible rfl)
      try simp only [nrm]
      refine tkL 2 (v := ?_) rfl ?_ ?_
      rotate_left
      · (intro w hSw; obtain ⟨q0, q1, q2, q3, q4, q5, q6⟩ := hSw; go_simp; try with_reducible rfl)
      try simp only [nrm]
      refine tkL 3 (v := ?_) rfl ?_ ?_
      rotate_left
      · (intro w hSw; obtain ⟨q0, q1, q2, q3, q4, q5, q6⟩ := hSw; go_simp; try with_reducible rfl)
      try simp only [nrm]
      refine tkL 4 (v := ?_) rfl ?_ ?_
      rotate_left
      · (intro w hSw; obtain ⟨q0, q1, q2, q3, q4, q5, q6⟩ := hSw; go_simp; try with_reducible rfl)
      try simp only [nrm]
      refine tkL 5 (v := ?_) rfl ?_ ?_
      rotate_left
      · (intro w hSw; obtain ⟨q0, q1, q2, q3, q4, q5, q6⟩ := hSw; go_simp; try with_reducible rfl)
      try simp only [nrm]
      refine tkL 6 (v := ?_) rfl ?_ ?_
      rotate_left
      · (intro w hSw; obtain ⟨q0, q1, q2, q3, q4, q5, q6⟩ := hSw; go_simp; try with_reducible rfl)
      try simp only [nrm]
      refine tkL 7 (v := ?_) rfl ?_ ?_
      rotate_left
      · (intro w hSw; obtain ⟨q0, q1, q2, q3, q4, q5, q6⟩ := hSw; go_simp; try with_reducible rfl)
      try simp only [nrm]
      refine rdL 8 rfl (fun K hK => ?_)
      go_simp
      refine (CSR1.out _).mono ?_
      rintro e w9 ⟨rfl, hb9⟩
      have HV9 := Lib.hid (HV8.out.trans (hb9.mono HV8.out.size))
      have hH9 := HSK7.out _ (HO6.out.trans (Onl.of_below HV9.out (Nat.le_refl _)))
      refine hK.out _ _ hH9 (fun hHeld => ?_)
      clear hK K hb9 HV8 hH9
      have HV8 := HV9
      clear HV9
      unfold rwV
      try simp only [nrm]
      refine rdL 9 rfl (fun K hK => ?_)
      go_simp
      refine (CJ7.out _ HV8.out).mono ?_
      rintro e w8 ⟨rfl, ht, hs9⟩
      have HT8 := Lib.hid ht
      have HO7 : Hid (Onl g W3 w8) := Lib.hid ((HO6.out.trans (Onl.of_below HV8.out (Nat.le_refl _))).trans hs9)
      clear ht hs9
      refine hK.out _ _ (HSK7.out _ HO7.out) (fun hHeld => ?_)
      clear hK K
      try simp only [nrm]
      refine wpAnyL_done (by kernel_rfl) ?_ _
      clear hHeld HV8 HSK7 CJ7 HO6 HT7 CSR1
      obtain ⟨b, hb⟩ : ∃ b, s[i] = b := ⟨_, rfl⟩
      have hbl := b.toNat_lt
      have hbi : (b.toNat : Int) < 256 := by omega
      have hwb : IntKind.i64.wrap (b.toNat : Int) = (b.toNat : Int) := by rw [IntKind.wrap_i64]; omega
      have HBB := Lib.hid hb
      have HSK8 : Hid (∀ Z, Onl g W3 Z → Z.cell? ⟨gs, 0, none⟩ = some (.pointer (some ⟨d.p, 0, none⟩)) ∧ Z.cell? ⟨gs, 1, none⟩ = some (.int .i64 (fr : Int)) ∧ Z.cell? ⟨gs, 2, none⟩ = some (.int .i64 (s.size : Int)) ∧ Z.cell? ⟨gs, 3, none⟩ = some (.int .i64 (d.m : Int)) ∧ Z.cell? ⟨gs, 4, none⟩ = some (.slice (some ⟨g, 0, none⟩) (R * d.m) (R * d.m)) ∧ Z.cell? ⟨d.p, 1, none⟩ = some (.int .i64 (d.m : Int)) ∧ Z.cell? ⟨d.p, 2, none⟩ = some (.slice (some ⟨d.t, 0, none⟩) (256 * d.m) (256 * d.m))) := Lib.hid fun Z hZ => by
        have e1 := (HS5.out Z hZ).1
        have e2 := (HS5.out Z hZ).2.prog
        exact ⟨rg_cell e1, rg_cell e1, rg_cell e1, rg_cell e1, rg_cell e1, rg_cell e2, rg_cell e2⟩
      have CR8 : Hid (∀ Z, Calls Tryz.prog 41 #[.agg #[.int .i64 (d.m : Int), .slice (some ⟨d.t, 0, none⟩) (256 * d.m) (256 * d.m)], .int .i64 (b.toNat : Int)] Z fun e w' => e = .returned (.slice (some ⟨d.t, rwO 256 d.m b.toNat, none⟩) d.m (256 * d.m - b.toNat * d.m)) ∧ Below Z.heap.size Z w') := Lib.hid fun Z =>
        (mrow_any d.t 256 d.m b.toNat (by omega) (by omega) (by omega) Z).mono fun e w' ⟨h1, h2⟩ => ⟨h1, by rw [h2]; exact (Below.refl _ _).alloc (Nat.le_refl _) _⟩
      have CJ8 : Hid (∀ Z, Below w8.heap.size w8 Z → Calls Tryz.prog 44 #[.slice (some ⟨g, rwO R d.m (i - fr), none⟩) d.m (R * d.m - (i - fr) * d.m), .slice (some ⟨d.t, rwO 256 d.m b.toNat, none⟩) d.m (256 * d.m - b.toNat * d.m)] Z fun e w' => e = .returned (.tuple #[]) ∧ Tb w' g R d.m (fun r x => (((i + 1 ≤ fr + r ∧ RowS s t (fr + r) x) ∨ (r = i - fr ∧ Lst t 0 sp x)) ∨ (r = i - fr ∧ ∃ y, y < 64 * d.m ∧ RowS s t (i + 1) y ∧ Bhd t 0 x y)) ∧ (r = i - fr → Tks hasP t 0 x b.toNat)) ∧ Sm g Z w') := Lib.hid fun Z hZ =>
        mkeep_any (HT8.out.next hZ) (((HS5.out _ HO7.out).2.tk).next hZ) (by omega) hrl (by omega) (by omega) (fun h => rwO_eq hrl h) (fun h => rwO_eq (by omega) h) _ _
      have HH8 := HSK8.out _ (HO7.out.trans (Onl.of_below (drew_below w8) (Nat.le_refl _)))
      go_wp2_with fail
      refine wp_region_L (st := []) (S := fun Z => Z.cell? ⟨gs, 0, none⟩ = some (.pointer (some ⟨d.p, 0, none⟩)) ∧ Z.cell? ⟨gs, 1, none⟩ = some (.int .i64 (fr : Int)) ∧ Z.cell? ⟨gs, 2, none⟩ = some (.int .i64 (s.size : Int)) ∧ Z.cell? ⟨gs, 3, none⟩ = some (.int .i64 (d.m : Int)) ∧ Z.cell? ⟨gs, 4, none⟩ = some (.slice (some ⟨g, 0, none⟩) (R * d.m) (R * d.m)) ∧ Z.cell? ⟨d.p, 1, none⟩ = some (.int .i64 (d.m : Int)) ∧ Z.cell? ⟨d.p, 2, none⟩ = some (.slice (some ⟨d.t, 0, none⟩) (256 * d.m) (256 * d.m))) (by kernel_rfl) HH8 (fun hHeld => ?_)
      have HV8 := Lib.hid (drew_below w8)
      clear HH8
      refine tkL 0 (v := ?_) rfl ?_ ?_
      rotate_left
      · (intro w hSw; obtain ⟨q0, q1, q2, q3, q4, q5, q6⟩ := hSw; go_simp; try with_reducible rfl)
      try simp only [nrm]
      refine tkL 1 (v := ?_) rfl ?_ ?_
      rotate_left
      · (intro w hSw; obtain ⟨q0, q1, q2, q3, q4, q5, q6⟩ := hSw; go_simp; try with_reducible rfl)
      try simp only [nrm]
      refine tkL 2 (v := ?_) rfl ?_ ?_
      rotate_left
      · (intro w hSw; obtain ⟨q0, q1, q2, q3, q4, q5, q6⟩ := hSw; go_simp; try with_reducible rfl)
      try simp only [nrm]
      refine tkL 3 (v := ?_) rfl ?_ ?_
      rotate_left
      · (intro w hSw; obtain ⟨q0, q1, q2, q3, q4, q5, q6⟩ := hSw; go_simp; try with_reducible rfl)
      try simp only [nrm]
      refine tkL 4 (v := ?_) rfl ?_ ?_
      rotate_left
      · (intro w hSw; obtain ⟨q0, q1, q2, q3, q4, q5, q6⟩ := hSw; go_simp; try with_reducible rfl)
      try simp only [nrm]
      refine tkL 5 (v := ?_) rfl ?_ ?_
      rotate_left
      · (intro w hSw; obtain ⟨q0, q1, q2, q3, q4, q5, q6⟩ := hSw; go_simp; try with_reducible rfl)
      try simp only [nrm]
      refine tkL 6 (v := ?_) rfl ?_ ?_
      rotate_left
      · (intro w hSw; obtain ⟨q0, q1, q2, q3, q4, q5, q6⟩ := hSw; go_simp; try with_reducible rfl)
      try simp only [nrm]
      refine tkL 7 (v := ?_) rfl ?_ ?_
      rotate_left
      · (intro w hSw; obtain ⟨q0, q1, q2, q3, q4, q5, q6⟩ := hSw; go_simp; try with_reducible rfl)
      try simp only [nrm]
      refine tkL 8 (v := ?_) rfl ?_ ?_
      rotate_left
      · (intro w hSw; obtain ⟨q0, q1, q2, q3, q4, q5, q6⟩ := hSw; go_simp; try with_reducible rfl)
      try simp only [nrm]
      refine rdL 9 rfl (fun K hK => ?_)
      go_simp
      refine (CR8.out _).mono ?_
      rintro e w9 ⟨rfl, hb9⟩
      have HV9 := Lib.hid (HV8.out.trans (hb9.mono HV8.out.size))
      have hH9 := HSK8.out _ (HO7.out.trans (Onl.of_below HV9.out (Nat.le_refl _)))
      refine hK.out _ _ hH9 (fun hHeld => ?_)
      clear hK K hb9 HV8 hH9
      have HV8 := HV9
      clear HV9
      try simp only [nrm]
      refine rdL 10 rfl (fun K hK => ?_)
      go_simp
      refine (CJ8.out _ HV8.out).mono ?_
      rintro e w9 ⟨rfl, ht, hs9⟩
      have HT9 := Lib.hid ht
      have HO8 : Hid (Onl g W3 w9) := Lib.hid ((HO7.out.trans (Onl.of_below HV8.out (Nat.le_refl _))).trans hs9.onl)
      clear ht hs9
      refine hK.out _ _ (HSK8.out _ HO8.out) (fun hHeld => ?_)
      clear hK K
      try simp only [nrm]
      refine wpAnyL_done (by kernel_rfl) ?_ _
      clear hHeld HV8 HSK8 CR8 CJ8 HT8 HO7
      have HN : Hid (Tb w9 g R d.m (fun r x => s.size - (k + 1) ≤ fr + r ∧ RowS s t (fr + r) x) ∧ Onl g W3 w9) := Lib.hid ⟨HT9.out.congr (fun r x hr hx => by
        rw [HII.out.2.1]
        have hh := HRI.out r hr
        have hpg := (HS5.out _ HO8.out).2
        by_cases hri : r = i - fr
        · have hfi := hh.2.1 hri
          rw [hfi]
          have hri2 : RowS s t i x ↔ tkS s t x i ∧ (Lst t 0 (spotN (i + 1) s.size) x ∨ ∃ y, RowS s t (i + 1) y ∧ Bhd t 0 x y) := rowP_iff his
          rw [hri2]
          have h1 : ¬ (i + 1 ≤ i) := by omega
          simp only [hri, h1, false_and, false_or, true_and, forall_const, Nat.le_refl]
          have htk : Tks hasP t 0 x b.toNat ↔ tkS s t x i := by
            unfold tkS
            rw [← HBB.out]
            exact ⟨fun h => ⟨his, h⟩, fun ⟨_, h⟩ => h⟩
          rw [htk, HSP.out]
          constructor
          · rintro ⟨h | ⟨y, _, h2, h3⟩, h4⟩
            · exact ⟨h4, .inl h⟩
            · exact ⟨h4, .inr ⟨y, h2, h3⟩⟩
          · rintro ⟨h4, h | ⟨y, h2, h3⟩⟩
            · exact ⟨.inl h, h4⟩
            · refine ⟨.inr ⟨y, ?_, h2, h3⟩, h4⟩
              have := (Bhd.range t 0 x y h3).2
              have := hpg.L
              have := hpg.Lm
              omega
        · have h2 : i + 1 ≤ fr + r ↔ i ≤ fr + r := by omega
          simp only [hri, false_and, or_false, false_implies, and_true, h2]), HO8.out⟩
      clear HT9 HO8
      have hmz : (((i : Int) - 1) + 1).toNat < ((i : Int) + 1).toNat := by omega
      go_wp2_with fail
      refine ⟨⟨k + 1, (i : Int) - 1, by omega, rfl, Lib.hid (by have := HII.out; omega), HN⟩, ?_⟩
      simp [intOf]
    · obtain rfl : k = s.size - fr := by omega
      have hzi : z = (fr : Int) - 1 := by have := HZZ.out; omega
      subst hzi
      have hii : ¬ (fr : Int) ≤ (fr : Int) - 1 := by omega
      have hq := (HK.out.2.block gs (by omega) (by omega)).trans HX3.out
      have s0 : wr.cell? ⟨gs, 0, none⟩ = some (.pointer (some ⟨d.p, 0, none⟩)) := rg_cell hq
      have s1 : wr.cell? ⟨gs, 1, none⟩ = some (.int .i64 (fr : Int)) := rg_cell hq
      have s2 : wr.cell? ⟨gs, 2, none⟩ = some (.int .i64 (s.size : Int)) := rg_cell hq
      have s3 : wr.cell? ⟨gs, 3, none⟩ = some (.int .i64 (d.m : Int)) := rg_cell hq
      have s4 : wr.cell? ⟨gs, 4, none⟩ = some (.slice (some ⟨g, 0, none⟩) (R * d.m) (R * d.m)) := rg_cell hq
      have hz := (HK.out.2.block w.heap.size (by omega) (by omega)).trans HRZ3.out
      have z0 : wr.cell? ⟨w.heap.size, 0, none⟩ = some (.pointer none) := rg_cell hz
      have z1 : wr.cell? ⟨w.heap.size, 1, none⟩ = some (.int .i64 0) := rg_cell hz
      have z2 : wr.cell? ⟨w.heap.size, 2, none⟩ = some (.int .i64 0) := rg_cell hz
      have z3 : wr.cell? ⟨w.heap.size, 3, none⟩ = some (.int .i64 0) := rg_cell hz
      have z4 : wr.cell? ⟨w.heap.size, 4, none⟩ = some (.slice none 0 0) := rg_cell hz
      have f0 : wr.frozen? ⟨w.heap.size, 0, none⟩ = false := rg_frozen hz
      have f1 : wr.frozen? ⟨w.heap.size, 1, none⟩ = false := rg_frozen hz
      have f2 : wr.frozen? ⟨w.heap.size, 2, none⟩ = false := rg_frozen hz
      have f3 : wr.frozen? ⟨w.heap.size, 3, none⟩ = false := rg_frozen hz
      have f4 : wr.frozen? ⟨w.heap.size, 4, none⟩ = false := rg_frozen hz
      have kk : gs ≠ w.heap.size := by omega
      clear hq hz
      obtain ⟨W9, hW9⟩ : ∃ W9, ((((wr.setCell ⟨w.heap.size, 0, none⟩ (.pointer (some ⟨d.p, 0, none⟩))).setCell ⟨w.heap.size, 1, none⟩ (.int .i64 (fr : Int))).setCell ⟨w.heap.size, 2, none⟩ (.int .i64 (s.size : Int))).setCell ⟨w.heap.size, 3, none⟩ (.int .i64 (d.m : Int))).setCell ⟨w.heap.size, 4, none⟩ (.slice (some ⟨g, 0, none⟩) (R * d.m) (R * d.m)) = W9 := ⟨_, rfl⟩
      have ho9 : Onl w.heap.size wr W9 := by rw [← hW9]; exact (((((Onl.refl _ _).setCell _ _).setCell _ _).setCell _ _).setCell _ _).setCell _ _
      have HFIN : Hid (SeePost w d t s fr (.returned (seV d fr s.size g)) W9) := Lib.hid (by
        refine ⟨g, rfl, ⟨HPG3.out.kept fun k hk hl => ?_, ?_⟩, by omega, ?_⟩
        · have hne : k ≠ g ∧ k ≠ w.heap.size := by rcases hk with rfl | rfl | rfl | rfl | rfl | rfl | rfl <;> omega
          exact (ho9.block k (by have := HK.out.2.size; omega) hne.2).trans (HK.out.2.block k hl hne.1)
        · rw [hR]
          exact (HK.out.1.onl ho9 (by omega)).congr fun r x hr _ => by
            have : s.size - (s.size - fr) ≤ fr + r := by omega
            simp only [this, true_and]
        · exact (HB3.out.trans (HK.out.2.below (by omega) (by omega))).trans (ho9.below (Nat.le_refl _) (by have := HK.out.2.size; omega)))
      have HW9 := Lib.hid hW9
      clear hW9 ho9 HK
      go_wp2_with fail
      rw [HW9.out]
      refine bodyPost_ret (v := seV d fr s.size g) ?_ rfl HFIN.out
      rw [← HW9.out]
      simp [results, Tryz.results15, go_sem, seV, hR, z0, z1, z2, z3, z4]
end Go.Proofs.YtmlpkimbcjkbkaaGreatDoor
