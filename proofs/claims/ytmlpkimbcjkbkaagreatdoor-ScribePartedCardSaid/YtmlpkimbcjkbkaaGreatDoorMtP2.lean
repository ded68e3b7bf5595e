/-
  CONTRACT of layer 10's one: what takes one byte of a set.
-/
import Derived.Test.YtmlpkimbcjkbkaaGreatDoorMtP1
namespace Go.Proofs.YtmlpkimbcjkbkaaGreatDoor
open Go.RowKit

theorem PcB.lt {w : World} {b m : Nat} {E : Nat → Bool} {gf gl : Nat} (h : PcB w b m E gf gl) : b < w.heap.size := (Array.getElem?_eq_some_iff.1 h).1
theorem PcB.kept {w w' : World} {b m : Nat} {E : Nat → Bool} {gf gl : Nat} (h : PcB w b m E gf gl) (hk : w'.heap[b]? = w.heap[b]?) : PcB w' b m E gf gl := hk.trans h
theorem dz_ne {w : World} {k : Nat} {c : Array Value} {e : TypeId} {fz : Nat × Nat} (hd : Dz w) (h : w.heap[k]? = some (.cells c e fz)) (hc : c[0]? ≠ some (.int .u8 0)) : k ≠ (0 : Nat) := fun e => by
  subst e
  exact hc ((rg_cell h).symm.trans (hd 0 (by decide)))
/-- An empty cell of a piece. -/
def PcZ (w : World) (b : Nat) : Prop := w.heap[b]? = some (.cells #[.bool false, .bool false, .bool false, .bool false, .int .i64 0, .slice none 0 0, .int .i64 0, .slice none 0 0] 88 (0, 0))
theorem PcZ.lt {w : World} {b : Nat} (h : PcZ w b) : b < w.heap.size := (Array.getElem?_eq_some_iff.1 h).1
/-- What a leaf's or a tree's piece says behind the call. -/
def PcPost (w : World) (d : Bd) (n : Nat) (T B : Nat → Nat → Prop) (E : Nat → Bool) (F G : Nat → Nat → Prop) (e : Ending) (w' : World) : Prop :=
  ∃ gf gl, e = .returned (pcV d.m E gf gl) ∧ Pc w' d.m w.heap.size gf gl F G ∧ Bl w' d n T B ∧ Chg d.own w w'
theorem sm_chg {b : Nat} {C : Nat → Prop} {w w' : World} (h : Sm b w w') (hb : C b) : Chg C w w' := Chg.of_onl h.onl fun _ => hb
set_option maxHeartbeats 8000000 in
set_option maxRecDepth 100000 in
theorem mone_any {w : World} {d : Bd} {n : Nat} {T B : Nat → Nat → Prop} (hd : d.ok) (h : Bl w d n T B) (S : W4) (hS : S.Ok) (hn : n < d.L) :
    Calls Tryz.prog 72 #[.pointer (some ⟨d.b, 0, none⟩), S.val] w (PcPost w d (n + 1) (fun c x => T c x ∨ (x = n ∧ S.has c = true)) B (fun _ => false) (fun _ x => x = n) (fun _ x => x = n)) := by
  have hdm := hd.m
  have hdL := hd.L
  have hlt := h.lt
  have hn64 : n < 64 * d.m := by omega
  have hn9 : n ≤ 1000000 := by omega
  have CN : Hid (∀ Z, Below w.heap.size w Z → Calls Tryz.prog 74 #[.pointer (some ⟨d.b, 0, none⟩), .agg #[.bool false, .bool false, .bool false, .bool false]] Z fun e w' => ∃ gf gl, e = .returned (pcV d.m (fun _ => false) gf gl) ∧ Pc w' d.m Z.heap.size gf gl (fun _ _ => False) (fun _ _ => False) ∧ Below Z.heap.size Z w') := Lib.hid fun Z hZ => mnot_any hd (h.kept fun k _ hl => hZ.block k hl) (fun _ => false)
  have CH : Hid (∀ (c : Nat) Z, c < 256 → Calls Tryz.prog 96 #[.agg #[.int .u64 S.a, .int .u64 S.b, .int .u64 S.c, .int .u64 S.d], .int .u8 (c : Int)] Z fun e w' => e = .returned (.bool (S.has c)) ∧ Below Z.heap.size Z w') := Lib.hid fun c Z hc => mhas_any S hS c hc Z
  obtain ⟨W1, hW1⟩ : ∃ W1, (w.alloc (.cells #[.int .u64 S.a, .int .u64 S.b, .int .u64 S.c, .int .u64 S.d] 42)).alloc (.cells #[.bool false, .bool false, .bool false, .bool false, .int .i64 0, .slice none 0 0, .int .i64 0, .slice none 0 0] 88) = W1 := ⟨_, rfl⟩
  have hb1 : Below w.heap.size w W1 := by rw [← hW1]; exact ((Below.refl _ _).alloc (Nat.le_refl _) _).alloc (by simp) _
  have hz1 : W1.heap.size = w.heap.size + 2 := by rw [← hW1]; simp
  have hx0 : W1.heap[w.heap.size]? = some (.cells #[.int .u64 S.a, .int .u64 S.b, .int .u64 S.c, .int .u64 S.d] 42 (0, 0)) := by rw [← hW1]; exact (Below.heap_alloc _ _ _ (by simp)).trans (mt_heap_new _ _)
  have hx1 : PcZ W1 (w.heap.size + 1) := by
    rw [← hW1]
    have := mt_heap_new (w.alloc (.cells #[.int .u64 S.a, .int .u64 S.b, .int .u64 S.c, .int .u64 S.d] 42)) (.cells #[.bool false, .bool false, .bool false, .bool false, .int .i64 0, .slice none 0 0, .int .i64 0, .slice none 0 0] 88)
    rw [World.size_alloc] at this
    exact this
  have HX0 := Lib.hid hx0
  have HX1 := Lib.hid hx1
  have HB1 := Lib.hid hb1
  have HW1 := Lib.hid hW1
  have HBL := Lib.hid h
  have HD := Lib.hid hd
  clear h hx0 hx1 hb1 hW1 hS hd
  unfold W4.val
  go_enter Tryz.func72, Tryz.ntmps72
  go_wp2_with fail
  rw [HW1.out]
  clear HW1
  refine (CN.out _ HB1.out).mono ?_
  rintro e w2 ⟨gf, gl, rfl, hpc, hb2⟩
  have hz2 := hb2.size
  have hgf := hpc.f.lt
  have hgl := hpc.l.lt
  have hbf := hpc.bf
  have hbl := hpc.bl
  have hne := hpc.ne
  obtain ⟨W3, hW3⟩ : ∃ W3, w2.alloc (.cells #[.bool false, .bool false, .bool false, .bool false, .int .i64 (d.m : Int), .slice (some ⟨gf, 0, none⟩) (4 * d.m) (4 * d.m), .int .i64 (d.m : Int), .slice (some ⟨gl, 0, none⟩) (4 * d.m) (4 * d.m)] 88) = W3 := ⟨_, rfl⟩
  have hb3 : Below w2.heap.size w2 W3 := by rw [← hW3]; exact (Below.refl _ _).alloc (Nat.le_refl _) _
  have hz3 : W3.heap.size = w2.heap.size + 1 := by rw [← hW3]; simp
  have HP3 : Hid (PcB W3 w2.heap.size d.m (fun _ => false) gf gl) := Lib.hid (by rw [← hW3]; exact mt_heap_new _ _)
  have HB3 : Hid (Below w.heap.size w W3) := Lib.hid ((HB1.out.trans (hb2.mono (by omega))).trans (hb3.mono (by omega)))
  have HC3 := Lib.hid (hpc.next hb3)
  have HX03 : Hid (W3.heap[w.heap.size]? = some (.cells #[.int .u64 S.a, .int .u64 S.b, .int .u64 S.c, .int .u64 S.d] 42 (0, 0))) := Lib.hid ((hb3.block _ (by omega)).trans ((hb2.block _ (by omega)).trans HX0.out))
  have HX13 : Hid (PcZ W3 (w.heap.size + 1)) := Lib.hid ((hb3.block _ (by omega)).trans ((hb2.block _ (by omega)).trans HX1.out))
  have HBL3 : Hid (Bl W3 d n T B) := Lib.hid (HBL.out.next HB3.out)
  have HW3 := Lib.hid hW3
  clear hpc hb2 hb3 hW3 HX0 HX1 HB1 CN
  unfold pcV
  go_wp2_with fail
  rw [HW3.out]
  clear HW3
  have hgb : gf ≠ w2.heap.size := by omega
  have hlb : gl ≠ w2.heap.size := by omega
  generalize w2.heap.size = gp at *
  go_loopw [11] (fun iv wr => ∃ k : Nat, k ≤ 4 ∧ iv = .int .i64 (k : Int) ∧ Hid (Pc wr d.m W1.heap.size gf gl (fun i x => i < k ∧ x = n) (fun i x => i < k ∧ x = n) ∧ Chg (fun j => j = gf ∨ j = gl) W3 wr)) (fun iv _ => 4 - (intOf iv).toNat)
  case atStart => exact ⟨0, Nat.zero_le _, rfl, Lib.hid ⟨HC3.out.congr (fun i x _ _ => by simp) (fun i x _ _ => by simp), Chg.refl _ _⟩⟩
  case round =>
    obtain ⟨k, hk, rfl, HK⟩ := hrel
    by_cases hk4 : k < 4
    · have hki : (k : Int) < 4 := by omega
      have HSK5 : Hid (∀ Z, Chg (fun j => j = gf ∨ j = gl) W3 Z → Z.cell? ⟨gp, 4, none⟩ = some (.int .i64 (d.m : Int)) ∧ Z.cell? ⟨gp, 5, none⟩ = some (.slice (some ⟨gf, 0, none⟩) (4 * d.m) (4 * d.m)) ∧ Z.cell? ⟨d.b, 1, none⟩ = some (.int .i64 (n : Int))) := Lib.hid fun Z hZ => by
        have e1 := (hZ.block gp HP3.out.lt (by omega)).trans HP3.out
        have e2 := (hZ.block d.b (by omega) (by omega)).trans HBL3.out.blk
        exact ⟨rg_cell e1, rg_cell e1, rg_cell e2⟩
      have CR5 : Hid (∀ Z, Calls Tryz.prog 41 #[.agg #[.int .i64 (d.m : Int), .slice (some ⟨gf, 0, none⟩) (4 * d.m) (4 * d.m)], .int .i64 (k : Int)] Z fun e w' => e = .returned (.slice (some ⟨gf, rwO 4 d.m k, none⟩) d.m (4 * d.m - k * d.m)) ∧ Below Z.heap.size Z w') := Lib.hid fun Z =>
        (mrow_any gf 4 d.m k hk4 (by omega) (by omega) Z).mono fun e w' ⟨h1, h2⟩ => ⟨h1, by rw [h2]; exact (Below.refl _ _).alloc (Nat.le_refl _) _⟩
      have CA5 : Hid (∀ Z, Below wr.heap.size wr Z → Calls Tryz.prog 95 #[.slice (some ⟨gf, rwO 4 d.m k, none⟩) d.m (4 * d.m - k * d.m), .int .i64 (n : Int)] Z fun e w' => e = .returned (.tuple #[]) ∧ Tb w' gf 4 d.m (fun r y => (r < k ∧ y = n) ∨ (r = k ∧ y = n)) ∧ Sm gf Z w') := Lib.hid fun Z hZ =>
        madd_any (HK.out.1.f.next hZ) hk4 (by omega) (fun hm => rwO_eq hk4 hm) _ hn64
      have HH5 := HSK5.out _ (HK.out.2.then (Chg.of_below (drew_below _) (Nat.le_refl _)))
      go_wp2_with fail
      refine wp_region_L (st := []) (S := fun Z => Z.cell? ⟨gp, 4, none⟩ = some (.int .i64 (d.m : Int)) ∧ Z.cell? ⟨gp, 5, none⟩ = some (.slice (some ⟨gf, 0, none⟩) (4 * d.m) (4 * d.m)) ∧ Z.cell? ⟨d.b, 1, none⟩ = some (.int .i64 (n : Int))) (by kernel_rfl) HH5 (fun hHeld => ?_)
      have HV8 := Lib.hid (drew_below wr)
      clear HH5
      refine tkL 0 (v := ?_) rfl ?_ ?_
      rotate_left
      · (intro w hSw; obtain ⟨q0, q1, q2⟩ := hSw; go_simp; try with_reducible rfl)
      try simp only [nrm]
      refine tkL 1 (v := ?_) rfl ?_ ?_
      rotate_left
      · (intro w hSw; obtain ⟨q0, q1, q2⟩ := hSw; go_simp; try with_reducible rfl)
      try simp only [nrm]
      refine tkL 2 (v := ?_) rfl ?_ ?_
      rotate_left
      · (intro w hSw; obtain ⟨q0, q1, q2⟩ := hSw; go_simp; try with_reducible rfl)
      try simp only [nrm]
      refine tkL 4 (v := ?_) rfl ?_ ?_
      rotate_left
      · (intro w hSw; obtain ⟨q0, q1, q2⟩ := hSw; go_simp; try with_reducible rfl)
      try simp only [nrm]
      refine tkL 5 (v := ?_) rfl ?_ ?_
      rotate_left
      · (intro w hSw; obtain ⟨q0, q1, q2⟩ := hSw; go_simp; try with_reducible rfl)
      try simp only [nrm]
      refine tkL 6 (v := ?_) rfl ?_ ?_
      rotate_left
      · (intro w hSw; obtain ⟨q0, q1, q2⟩ := hSw; go_simp; try with_reducible rfl)
      try simp only [nrm]
      refine tkL 7 (v := ?_) rfl ?_ ?_
      rotate_left
      · (intro w hSw; obtain ⟨q0, q1, q2⟩ := hSw; go_simp; try with_reducible rfl)
      try simp only [nrm]
      refine rdL 3 rfl (fun K hK => ?_)
      go_simp
      refine (CR5.out _).mono ?_
      rintro e w8 ⟨rfl, hb8⟩
      have HV9 := Lib.hid (HV8.out.trans (hb8.mono HV8.out.size))
      clear hb8 HV8
      refine hK.out _ _ (HSK5.out _ (HK.out.2.then (Chg.of_below HV9.out (Nat.le_refl _)))) (fun hHeld => ?_)
      clear hK K
      try simp only [nrm]
      refine rdL 8 rfl (fun K hK => ?_)
      go_simp
      refine (CA5.out _ HV9.out).mono ?_
      rintro e v5 ⟨rfl, ht, hs⟩
      have HC51 : Hid (Chg (fun j => j = gf ∨ j = gl) W3 v5) := Lib.hid ((HK.out.2.then (Chg.of_below HV9.out (Nat.le_refl _))).then (sm_chg hs (by simp)))
      have HT5 := Lib.hid (ht.congr (Q := fun r y => r < k + 1 ∧ y = n) fun r x _ _ => by constructor <;> (intro h; omega))
      have HS5 : Hid (Onl gf wr v5) := Lib.hid ((Onl.of_below HV9.out (Nat.le_refl _)).trans hs.onl)
      clear ht hs
      refine hK.out _ _ (HSK5.out _ HC51.out) (fun hHeld => ?_)
      clear hK K
      try simp only [nrm]
      refine wpAnyL_done (by kernel_rfl) ?_ _
      clear hHeld HV9 HSK5 CR5 CA5
      have HSK6 : Hid (∀ Z, Chg (fun j => j = gf ∨ j = gl) W3 Z → Z.cell? ⟨gp, 6, none⟩ = some (.int .i64 (d.m : Int)) ∧ Z.cell? ⟨gp, 7, none⟩ = some (.slice (some ⟨gl, 0, none⟩) (4 * d.m) (4 * d.m)) ∧ Z.cell? ⟨d.b, 1, none⟩ = some (.int .i64 (n : Int))) := Lib.hid fun Z hZ => by
        have e1 := (hZ.block gp HP3.out.lt (by omega)).trans HP3.out
        have e2 := (hZ.block d.b (by omega) (by omega)).trans HBL3.out.blk
        exact ⟨rg_cell e1, rg_cell e1, rg_cell e2⟩
      have CR6 : Hid (∀ Z, Calls Tryz.prog 41 #[.agg #[.int .i64 (d.m : Int), .slice (some ⟨gl, 0, none⟩) (4 * d.m) (4 * d.m)], .int .i64 (k : Int)] Z fun e w' => e = .returned (.slice (some ⟨gl, rwO 4 d.m k, none⟩) d.m (4 * d.m - k * d.m)) ∧ Below Z.heap.size Z w') := Lib.hid fun Z =>
        (mrow_any gl 4 d.m k hk4 (by omega) (by omega) Z).mono fun e w' ⟨h1, h2⟩ => ⟨h1, by rw [h2]; exact (Below.refl _ _).alloc (Nat.le_refl _) _⟩
      have CA6 : Hid (∀ Z, Below v5.heap.size v5 Z → Calls Tryz.prog 95 #[.slice (some ⟨gl, rwO 4 d.m k, none⟩) d.m (4 * d.m - k * d.m), .int .i64 (n : Int)] Z fun e w' => e = .returned (.tuple #[]) ∧ Tb w' gl 4 d.m (fun r y => (r < k ∧ y = n) ∨ (r = k ∧ y = n)) ∧ Sm gl Z w') := Lib.hid fun Z hZ =>
        madd_any ((HK.out.1.l.onl HS5.out hne.symm).next hZ) hk4 (by omega) (fun hm => rwO_eq hk4 hm) _ hn64
      have HH6 := HSK6.out _ (HC51.out.then (Chg.of_below (drew_below _) (Nat.le_refl _)))
      go_wp2_with fail
      refine wp_region_L (st := []) (S := fun Z => Z.cell? ⟨gp, 6, none⟩ = some (.int .i64 (d.m : Int)) ∧ Z.cell? ⟨gp, 7, none⟩ = some (.slice (some ⟨gl, 0, none⟩) (4 * d.m) (4 * d.m)) ∧ Z.cell? ⟨d.b, 1, none⟩ = some (.int .i64 (n : Int))) (by kernel_rfl) HH6 (fun hHeld => ?_)
      have HV8 := Lib.hid (drew_below v5)
      clear HH6
      refine tkL 0 (v := ?_) rfl ?_ ?_
      rotate_left
      · (intro w hSw; obtain ⟨q0, q1, q2⟩ := hSw; go_simp; try with_reducible rfl)
      try simp only [nrm]
      refine tkL 1 (v := ?_) rfl ?_ ?_
      rotate_left
      · (intro w hSw; obtain ⟨q0, q1, q2⟩ := hSw; go_simp; try with_reducible rfl)
      try simp only [nrm]
      refine tkL 2 (v := ?_) rfl ?_ ?_
      rotate_left
      · (intro w hSw; obtain ⟨q0, q1, q2⟩ := hSw; go_simp; try with_reducible rfl)
      try simp only [nrm]
      refine tkL 4 (v := ?_) rfl ?_ ?_
      rotate_left
      · (intro w hSw; obtain ⟨q0, q1, q2⟩ := hSw; go_simp; try with_reducible rfl)
      try simp only [nrm]
      refine tkL 5 (v := ?_) rfl ?_ ?_
      rotate_left
      · (intro w hSw; obtain ⟨q0, q1, q2⟩ := hSw; go_simp; try with_reducible rfl)
      try simp only [nrm]
      refine tkL 6 (v := ?_) rfl ?_ ?_
      rotate_left
      · (intro w hSw; obtain ⟨q0, q1, q2⟩ := hSw; go_simp; try with_reducible rfl)
      try simp only [nrm]
      refine tkL 7 (v := ?_) rfl ?_ ?_
      rotate_left
      · (intro w hSw; obtain ⟨q0, q1, q2⟩ := hSw; go_simp; try with_reducible rfl)
      try simp only [nrm]
      refine rdL 3 rfl (fun K hK => ?_)
      go_simp
      refine (CR6.out _).mono ?_
      rintro e w8 ⟨rfl, hb8⟩
      have HV9 := Lib.hid (HV8.out.trans (hb8.mono HV8.out.size))
      clear hb8 HV8
      refine hK.out _ _ (HSK6.out _ (HC51.out.then (Chg.of_below HV9.out (Nat.le_refl _)))) (fun hHeld => ?_)
      clear hK K
      try simp only [nrm]
      refine rdL 8 rfl (fun K hK => ?_)
      go_simp
      refine (CA6.out _ HV9.out).mono ?_
      rintro e v6 ⟨rfl, ht, hs⟩
      have HC61 : Hid (Chg (fun j => j = gf ∨ j = gl) W3 v6) := Lib.hid ((HC51.out.then (Chg.of_below HV9.out (Nat.le_refl _))).then (sm_chg hs (by simp)))
      have HT6 := Lib.hid (ht.congr (Q := fun r y => r < k + 1 ∧ y = n) fun r x _ _ => by constructor <;> (intro h; omega))
      have HS6 : Hid (Onl gl v5 v6) := Lib.hid ((Onl.of_below HV9.out (Nat.le_refl _)).trans hs.onl)
      clear ht hs
      refine hK.out _ _ (HSK6.out _ HC61.out) (fun hHeld => ?_)
      clear hK K
      try simp only [nrm]
      refine wpAnyL_done (by kernel_rfl) ?_ _
      clear hHeld HV9 HSK6 CR6 CA6
      have HN : Hid (Pc v6 d.m W1.heap.size gf gl (fun i x => i < k + 1 ∧ x = n) (fun i x => i < k + 1 ∧ x = n) ∧ Chg (fun j => j = gf ∨ j = gl) W3 v6) := Lib.hid ⟨⟨HT5.out.onl HS6.out hne, HT6.out, hne, hbf, hbl⟩, HC61.out⟩
      clear HK HT5 HT6 HS5 HS6 HC51 HC61
      go_wp2_with fail
      refine ⟨⟨k + 1, by omega, by simp, HN⟩, ?_⟩
      simp [intOf]; omega
    · have hki : ¬ (k : Int) < 4 := by omega
      obtain rfl : k = 4 := by omega
      have HPC : Hid (Pc wr d.m W1.heap.size gf gl (fun _ x => x = n) (fun _ x => x = n)) := Lib.hid (HK.out.1.congr (fun i x hi _ => by simp [hi]) (fun i x hi _ => by simp [hi]))
      have HCC := Lib.hid HK.out.2
      have HBLr : Hid (Bl wr d n T B) := Lib.hid (HBL3.out.kept fun k hk hl => by
        have hzl := HBL.out.dz.lt
        exact HCC.out.block k hl (by rcases hk with rfl | rfl | rfl | rfl | rfl | rfl <;> omega))
      have HPr : Hid (PcB wr gp d.m (fun _ => false) gf gl) := Lib.hid ((HCC.out.block _ HP3.out.lt (by omega)).trans HP3.out)
      have HX0r : Hid (wr.heap[w.heap.size]? = some (.cells #[.int .u64 S.a, .int .u64 S.b, .int .u64 S.c, .int .u64 S.d] 42 (0, 0))) := Lib.hid ((HCC.out.block _ (by omega) (by omega)).trans HX03.out)
      have HX1r : Hid (PcZ wr (w.heap.size + 1)) := Lib.hid ((HCC.out.block _ HX13.out.lt (by omega)).trans HX13.out)
      have HBr : Hid (Chg d.own w wr) := Lib.hid ((Chg.of_below HB3.out (Nat.le_refl _)).trans HCC.out (fun j hj hc => by omega))
      obtain ⟨w4, hw4⟩ : ∃ x, x = wr := ⟨_, rfl⟩
      subst hw4
      have hzr := HCC.out.size
      clear HK HCC HX03 HX13 HP3 HB3 HBL3 HC3 HBL
      go_wp2_with fail
      go_loopw [33] (fun iv wr => ∃ k : Nat, k ≤ 256 ∧ iv = .int .i64 (k : Int) ∧ Hid (Tb wr d.t 256 d.m (fun c x => T c x ∨ (c < k ∧ x = n ∧ S.has c = true)) ∧ Onl d.t w4 wr)) (fun iv _ => 256 - (intOf iv).toNat)
      case atStart => exact ⟨0, Nat.zero_le _, rfl, Lib.hid ⟨HBLr.out.tk.congr (fun i x _ _ => by simp), Onl.refl _ _⟩⟩
      case round =>
        obtain ⟨k, hk, rfl, HK⟩ := hrel
        by_cases hk4 : k < 256
        · have hki : (k : Int) < 256 := by omega
          have e0 := (HK.out.2.block w.heap.size (by omega) (by omega)).trans HX0r.out
          have s0 : wr.cell? ⟨w.heap.size, 0, none⟩ = some (.int .u64 S.a) := rg_cell e0
          have s1 : wr.cell? ⟨w.heap.size, 1, none⟩ = some (.int .u64 S.b) := rg_cell e0
          have s2 : wr.cell? ⟨w.heap.size, 2, none⟩ = some (.int .u64 S.c) := rg_cell e0
          have s3 : wr.cell? ⟨w.heap.size, 3, none⟩ = some (.int .u64 S.d) := rg_cell e0
          clear e0
          obtain ⟨b, hb⟩ : ∃ b, S.has k = b := ⟨_, rfl⟩
          have CHk := Lib.hid fun Z => CH.out k Z hk4
          rw [hb] at CHk
          have HHb := Lib.hid hb
          clear hb
          cases b with
          | false =>
            go_wp2_with fail
            refine (CHk.out _).mono ?_
            rintro e w5 ⟨rfl, hb5⟩
            have HN : Hid (Tb w5 d.t 256 d.m (fun c x => T c x ∨ (c < k + 1 ∧ x = n ∧ S.has c = true)) ∧ Onl d.t w4 w5) := Lib.hid ⟨(HK.out.1.next hb5).congr (fun c x _ _ => by
              by_cases hc : c = k
              · subst hc; simp [HHb.out]
              · have : c < k ↔ c < k + 1 := by omega
                rw [this]), HK.out.2.trans (Onl.of_below hb5 (Nat.le_refl _))⟩
            clear HK hb5 s0 s1 s2 s3 CHk
            go_wp2_with fail
            refine ⟨⟨k + 1, by omega, by simp, HN⟩, ?_⟩
            simp [intOf]; omega
          | true =>
            go_wp2_with fail
            refine (CHk.out _).mono ?_
            rintro e w5 ⟨rfl, hb5⟩
            have HT5 := Lib.hid (HK.out.1.next hb5)
            have HO5 := Lib.hid (HK.out.2.trans (Onl.of_below hb5 (Nat.le_refl _)))
            clear HK hb5 s0 s1 s2 s3 CHk
            have HSK : Hid (∀ Z, Onl d.t w4 Z → Z.cell? ⟨d.b, 0, none⟩ = some (.pointer (some ⟨d.p, 0, none⟩)) ∧ Z.cell? ⟨d.p, 1, none⟩ = some (.int .i64 (d.m : Int)) ∧ Z.cell? ⟨d.p, 2, none⟩ = some (.slice (some ⟨d.t, 0, none⟩) (256 * d.m) (256 * d.m)) ∧ Z.cell? ⟨d.b, 1, none⟩ = some (.int .i64 (n : Int))) := Lib.hid fun Z hZ => by
              have e1 := (hZ.block d.b HBLr.out.lt.1 HD.out.bt).trans HBLr.out.blk
              have e2 := (hZ.block d.p HBLr.out.lt.2.1 HD.out.pt).trans HBLr.out.prog
              exact ⟨rg_cell e1, rg_cell e2, rg_cell e2, rg_cell e1⟩
            have CR : Hid (∀ Z, Calls Tryz.prog 41 #[.agg #[.int .i64 (d.m : Int), .slice (some ⟨d.t, 0, none⟩) (256 * d.m) (256 * d.m)], .int .i64 (k : Int)] Z fun e w' => e = .returned (.slice (some ⟨d.t, rwO 256 d.m k, none⟩) d.m (256 * d.m - k * d.m)) ∧ Below Z.heap.size Z w') := Lib.hid fun Z =>
              (mrow_any d.t 256 d.m k hk4 (by omega) (by omega) Z).mono fun e w' ⟨h1, h2⟩ => ⟨h1, by rw [h2]; exact (Below.refl _ _).alloc (Nat.le_refl _) _⟩
            have CA : Hid (∀ Z, Below w5.heap.size w5 Z → Calls Tryz.prog 95 #[.slice (some ⟨d.t, rwO 256 d.m k, none⟩) d.m (256 * d.m - k * d.m), .int .i64 (n : Int)] Z fun e w' => e = .returned (.tuple #[]) ∧ Tb w' d.t 256 d.m (fun r y => (T r y ∨ (r < k ∧ y = n ∧ S.has r = true)) ∨ (r = k ∧ y = n)) ∧ Sm d.t Z w') := Lib.hid fun Z hZ =>
              madd_any (HT5.out.next hZ) hk4 (by omega) (fun hm => rwO_eq hk4 hm) _ hn64
            have HH := HSK.out _ (HO5.out.trans (Onl.of_below (drew_below _) (Nat.le_refl _)))
            go_wp2_with fail
            refine wp_region_L (st := []) (S := fun Z => Z.cell? ⟨d.b, 0, none⟩ = some (.pointer (some ⟨d.p, 0, none⟩)) ∧ Z.cell? ⟨d.p, 1, none⟩ = some (.int .i64 (d.m : Int)) ∧ Z.cell? ⟨d.p, 2, none⟩ = some (.slice (some ⟨d.t, 0, none⟩) (256 * d.m) (256 * d.m)) ∧ Z.cell? ⟨d.b, 1, none⟩ = some (.int .i64 (n : Int))) (by kernel_rfl) HH (fun hHeld => ?_)
            have HV8 := Lib.hid (drew_below w5)
            clear HH
            refine tkL 0 (v := ?_) rfl ?_ ?_
            rotate_left
            · (intro w hSw; obtain ⟨q0, q1, q2, q3⟩ := hSw; go_simp; try with_reducible rfl)
            try simp only [nrm]
            refine tkL 1 (v := ?_) rfl ?_ ?_
            rotate_left
            · (intro w hSw; obtain ⟨q0, q1, q2, q3⟩ := hSw; go_simp; try with_reducible rfl)
            try simp only [nrm]
            refine tkL 2 (v := ?_) rfl ?_ ?_
            rotate_left
            · (intro w hSw; obtain ⟨q0, q1, q2, q3⟩ := hSw; go_simp; try with_reducible rfl)
            try simp only [nrm]
            refine tkL 3 (v := ?_) rfl ?_ ?_
            rotate_left
            · (intro w hSw; obtain ⟨q0, q1, q2, q3⟩ := hSw; go_simp; try with_reducible rfl)
            try simp only [nrm]
            refine tkL 4 (v := ?_) rfl ?_ ?_
            rotate_left
            · (intro w hSw; obtain ⟨q0, q1, q2, q3⟩ := hSw; go_simp; try with_reducible rfl)
            try simp only [nrm]
            refine tkL 5 (v := ?_) rfl ?_ ?_
            rotate_left
            · (intro w hSw; obtain ⟨q0, q1, q2, q3⟩ := hSw; go_simp; try with_reducible rfl)
            try simp only [nrm]
            refine tkL 6 (v := ?_) rfl ?_ ?_
            rotate_left
            · (intro w hSw; obtain ⟨q0, q1, q2, q3⟩ := hSw; go_simp; try with_reducible rfl)
            try simp only [nrm]
            refine tkL 7 (v := ?_) rfl ?_ ?_
            rotate_left
            · (intro w hSw; obtain ⟨q0, q1, q2, q3⟩ := hSw; go_simp; try with_reducible rfl)
            try simp only [nrm]
            refine tkL 9 (v := ?_) rfl ?_ ?_
            rotate_left
            · (intro w hSw; obtain ⟨q0, q1, q2, q3⟩ := hSw; go_simp; try with_reducible rfl)
            try simp only [nrm]
            refine tkL 10 (v := ?_) rfl ?_ ?_
            rotate_left
            · (intro w hSw; obtain ⟨q0, q1, q2, q3⟩ := hSw; go_simp; try with_reducible rfl)
            try simp only [nrm]
            refine tkL 11 (v := ?_) rfl ?_ ?_
            rotate_left
            · (intro w hSw; obtain ⟨q0, q1, q2, q3⟩ := hSw; go_simp; try with_reducible rfl)
            try simp only [nrm]
            refine tkL 12 (v := ?_) rfl ?_ ?_
            rotate_left
            · (intro w hSw; obtain ⟨q0, q1, q2, q3⟩ := hSw; go_simp; try with_reducible rfl)
            try simp only [nrm]
            refine rdL 8 rfl (fun K hK => ?_)
            go_simp
            refine (CR.out _).mono ?_
            rintro e w8 ⟨rfl, hb8⟩
            have HV9 := Lib.hid (HV8.out.trans (hb8.mono HV8.out.size))
            clear hb8 HV8
            refine hK.out _ _ (HSK.out _ (HO5.out.trans (Onl.of_below HV9.out (Nat.le_refl _)))) (fun hHeld => ?_)
            clear hK K
            try simp only [nrm]
            refine rdL 13 rfl (fun K hK => ?_)
            go_simp
            refine (CA.out _ HV9.out).mono ?_
            rintro e w9 ⟨rfl, ht, hs⟩
            have HO9 : Hid (Onl d.t w4 w9) := Lib.hid ((HO5.out.trans (Onl.of_below HV9.out (Nat.le_refl _))).trans hs.onl)
            have HT9 := Lib.hid ht
            clear ht hs
            refine hK.out _ _ (HSK.out _ HO9.out) (fun hHeld => ?_)
            clear hK K
            try simp only [nrm]
            refine wpAnyL_done (by kernel_rfl) ?_ _
            clear hHeld HV9 HSK CR CA
            have HN : Hid (Tb w9 d.t 256 d.m (fun c x => T c x ∨ (c < k + 1 ∧ x = n ∧ S.has c = true)) ∧ Onl d.t w4 w9) := Lib.hid ⟨HT9.out.congr (fun c x _ _ => by
              by_cases hc : c = k
              · subst hc; simp [HHb.out]
              · have : c < k ↔ c < k + 1 := by omega
                rw [this]; simp [hc]), HO9.out⟩
            clear HT9 HO9 HT5 HO5
            go_wp2_with fail
            refine ⟨⟨k + 1, by omega, by simp, HN⟩, ?_⟩
            simp [intOf]; omega
        · have hki : ¬ (k : Int) < 256 := by omega
          obtain rfl : k = 256 := by omega
          have hO := HK.out.2
          have e1 := (hO.block d.b HBLr.out.lt.1 HD.out.bt).trans HBLr.out.blk
          have HTK : Hid (Tb wr d.t 256 d.m (fun c x => T c x ∨ (x = n ∧ S.has c = true))) := Lib.hid (HK.out.1.congr fun c x hc _ => by simp [hc])
          have e2 : PcB wr gp d.m (fun _ => false) gf gl := (hO.block gp HPr.out.lt (by omega)).trans HPr.out
          have e3 : PcZ wr (w.heap.size + 1) := (hO.block _ HX1r.out.lt (by omega)).trans HX1r.out
          have l0 : wr.cell? ⟨d.b, 1, none⟩ = some (.int .i64 (n : Int)) := rg_cell e1
          have l1 : wr.frozen? ⟨d.b, 1, none⟩ = false := rg_frozen e1
          have HE1 := Lib.hid e1
          have HE2 := Lib.hid e2
          have HE3 := Lib.hid e3
          have HOO := Lib.hid hO
          have p0 : wr.cell? ⟨gp, 0, none⟩ = some (.bool false) := rg_cell e2
          have p1 : wr.cell? ⟨gp, 1, none⟩ = some (.bool false) := rg_cell e2
          have p2 : wr.cell? ⟨gp, 2, none⟩ = some (.bool false) := rg_cell e2
          have p3 : wr.cell? ⟨gp, 3, none⟩ = some (.bool false) := rg_cell e2
          have p4 : wr.cell? ⟨gp, 4, none⟩ = some (.int .i64 (d.m : Int)) := rg_cell e2
          have p5 : wr.cell? ⟨gp, 5, none⟩ = some (.slice (some ⟨gf, 0, none⟩) (4 * d.m) (4 * d.m)) := rg_cell e2
          have p6 : wr.cell? ⟨gp, 6, none⟩ = some (.int .i64 (d.m : Int)) := rg_cell e2
          have p7 : wr.cell? ⟨gp, 7, none⟩ = some (.slice (some ⟨gl, 0, none⟩) (4 * d.m) (4 * d.m)) := rg_cell e2
          have z0 : wr.cell? ⟨w.heap.size + 1, 0, none⟩ = some (.bool false) := rg_cell e3
          have f0 : wr.frozen? ⟨w.heap.size + 1, 0, none⟩ = false := rg_frozen e3
          have z1 : wr.cell? ⟨w.heap.size + 1, 1, none⟩ = some (.bool false) := rg_cell e3
          have f1 : wr.frozen? ⟨w.heap.size + 1, 1, none⟩ = false := rg_frozen e3
          have z2 : wr.cell? ⟨w.heap.size + 1, 2, none⟩ = some (.bool false) := rg_cell e3
          have f2 : wr.frozen? ⟨w.heap.size + 1, 2, none⟩ = false := rg_frozen e3
          have z3 : wr.cell? ⟨w.heap.size + 1, 3, none⟩ = some (.bool false) := rg_cell e3
          have f3 : wr.frozen? ⟨w.heap.size + 1, 3, none⟩ = false := rg_frozen e3
          have z4 : wr.cell? ⟨w.heap.size + 1, 4, none⟩ = some (.int .i64 0) := rg_cell e3
          have f4 : wr.frozen? ⟨w.heap.size + 1, 4, none⟩ = false := rg_frozen e3
          have z5 : wr.cell? ⟨w.heap.size + 1, 5, none⟩ = some (.slice none 0 0) := rg_cell e3
          have f5 : wr.frozen? ⟨w.heap.size + 1, 5, none⟩ = false := rg_frozen e3
          have z6 : wr.cell? ⟨w.heap.size + 1, 6, none⟩ = some (.int .i64 0) := rg_cell e3
          have f6 : wr.frozen? ⟨w.heap.size + 1, 6, none⟩ = false := rg_frozen e3
          have z7 : wr.cell? ⟨w.heap.size + 1, 7, none⟩ = some (.slice none 0 0) := rg_cell e3
          have f7 : wr.frozen? ⟨w.heap.size + 1, 7, none⟩ = false := rg_frozen e3
          have k1 : gp ≠ d.b := by omega
          have k2 : w.heap.size + 1 ≠ d.b := by omega
          have k3 : w.heap.size + 1 ≠ gp := by omega
          clear e1 e2 e3 hO HK
          go_wp2_with fail
          refine bodyPost_ret (v := pcV d.m (fun _ => false) gf gl) ?_ rfl ⟨gf, gl, rfl, ?_⟩
          · have e4 : PcZ (wr.setCell ⟨d.b, 1, none⟩ (.int .i64 ((n : Int) + 1))) (w.heap.size + 1) := (Below.heap_setCell _ _ _ _ k2).trans HE3.out
            generalize wr.setCell ⟨d.b, 1, none⟩ (.int .i64 ((n : Int) + 1)) = W9 at *
            have y0 : W9.cell? ⟨w.heap.size + 1, 0, none⟩ = some (.bool false) := rg_cell e4
            have y1 : W9.cell? ⟨w.heap.size + 1, 1, none⟩ = some (.bool false) := rg_cell e4
            have y2 : W9.cell? ⟨w.heap.size + 1, 2, none⟩ = some (.bool false) := rg_cell e4
            have y3 : W9.cell? ⟨w.heap.size + 1, 3, none⟩ = some (.bool false) := rg_cell e4
            have y4 : W9.cell? ⟨w.heap.size + 1, 4, none⟩ = some (.int .i64 0) := rg_cell e4
            have y5 : W9.cell? ⟨w.heap.size + 1, 5, none⟩ = some (.slice none 0 0) := rg_cell e4
            have y6 : W9.cell? ⟨w.heap.size + 1, 6, none⟩ = some (.int .i64 0) := rg_cell e4
            have y7 : W9.cell? ⟨w.heap.size + 1, 7, none⟩ = some (.slice none 0 0) := rg_cell e4
            simp [results, Tryz.results72, go_sem, pcV, y0, y1, y2, y3, y4, y5, y6, y7]
          · have hx : ∀ k, k ≠ d.b → k ≠ w.heap.size + 1 → (put8 (wr.setCell ⟨d.b, 1, none⟩ (.int .i64 ((n : Int) + 1))) (w.heap.size + 1) d.m (fun _ => false) gf gl).heap[k]? = wr.heap[k]? := fun k h1 h2 =>
              (put8_block h2).trans (Below.heap_setCell _ _ _ k h1)
            have hdd := HD.out
            have hl4 := HBLr.out.lt
            show Pc (put8 (wr.setCell ⟨d.b, 1, none⟩ (.int .i64 ((n : Int) + 1))) (w.heap.size + 1) d.m (fun _ => false) gf gl) d.m w.heap.size gf gl _ _ ∧ Bl (put8 (wr.setCell ⟨d.b, 1, none⟩ (.int .i64 ((n : Int) + 1))) (w.heap.size + 1) d.m (fun _ => false) gf gl) d (n + 1) _ B ∧ Chg d.own w (put8 (wr.setCell ⟨d.b, 1, none⟩ (.int .i64 ((n : Int) + 1))) (w.heap.size + 1) d.m (fun _ => false) gf gl)
            have ho : ∀ k, k < w4.heap.size → k ≠ d.t → wr.heap[k]? = w4.heap[k]? := fun k h1 h2 => HOO.out.block k h1 h2
            have hzl := HBLr.out.dz.lt
            have hdt := HBLr.out.tk.ne_dz HBLr.out.dz
            have hdb : d.b ≠ (0 : Nat) := dz_ne HBLr.out.dz HBLr.out.blk (by simp)
            refine ⟨?_, ?_, ?_⟩
            · exact (HPC.out.kept ((hx gf (by omega) (by omega)).trans (ho gf HPC.out.f.lt (by omega))) ((hx gl (by omega) (by omega)).trans (ho gl HPC.out.l.lt (by omega)))).less (by omega)
            · refine ⟨?_, (hx _ hdd.bp.symm (by omega)).trans ((ho _ hl4.2.1 hdd.pt).trans HBLr.out.prog), HTK.out.kept (hx _ hdd.bt.symm (by omega)), HBLr.out.ah.kept ((hx _ hdd.ba.symm (by omega)).trans (ho _ hl4.2.2.2.1 hdd.ta.symm)),
                HBLr.out.bh.kept ((hx _ hdd.bh.symm (by omega)).trans (ho _ hl4.2.2.2.2 hdd.th.symm)), HBLr.out.dz.kept ((hx _ hdb.symm (by omega)).trans (ho _ hzl hdt.symm))⟩
              have := rg_setCell (i := 1) HE1.out (.int .i64 ((n : Int) + 1))
              simp only [List.setIfInBounds_toArray, List.set_cons_zero, List.set_cons_succ] at this
              exact (put8_block (by omega)).trans this
            · exact ((HBr.out.trans (Chg.of_onl HOO.out (fun _ => .inr (.inl rfl))) (fun j _ h => h)).set (p := ⟨d.b, 1, none⟩) (fun _ => .inl rfl) _).trans (Chg.of_onl (C := fun k => k = w.heap.size + 1) put8_onl (fun _ => rfl)) (fun j hj h => by omega)
end Go.Proofs.YtmlpkimbcjkbkaaGreatDoor
