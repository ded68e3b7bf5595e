/-
  CONTRACT of layer 9's Parse: any text of at most 300 bytes is the tree that it is, or told where it isn't one.
-/
import Derived.Test.YtjjejcgpeefclaaDoorRgR
namespace Go.Proofs.YtjjejcgpeefclaaDoor
open Go.RowKit

/-- What Parse answers. -/
def ParP (s : ByteArray) (w : World) (e : Ending) (w' : World) : Prop :=
  Below w.heap.size w w' ∧ ((∃ t r nd, topR withW notW orW s.data.toList = .ok (t, r) ∧ e = .returned (.tuple #[Nd.val nd, .int .i64 0, .int .i64 0]) ∧ TreeN w' (fun k => w.heap.size ≤ k) t nd) ∨
    (∃ n k, topR withW notW orW s.data.toList = .error (n, k) ∧ (k = 9 ∨ k = 14) ∧ n ≤ s.size ∧ e = .returned (.tuple #[Nd.zero.val, .int .i64 ((s.size - n : Nat) : Int), .int .i64 (k : Int)])))
theorem Below.put6 {B g : Nat} {a w : World} (h : Below B a w) (hg : B ≤ g) (n : Nd) : Below B a (put6 w g n) :=
  (((((h.setCell (p := ⟨g, 0, none⟩) hg _).setCell (p := ⟨g, 1, none⟩) hg _).setCell (p := ⟨g, 2, none⟩) hg _).setCell (p := ⟨g, 3, none⟩) hg _).setCell (p := ⟨g, 4, none⟩) hg _).setCell (p := ⟨g, 5, none⟩) hg _
set_option maxHeartbeats 8000000 in
set_option maxRecDepth 100000 in
theorem rparse_any (s : ByteArray) (w : World) (hs : s.size ≤ 300) :
    Calls Tryd.prog 20 #[.string s] w (ParP s w) := by
  obtain ⟨w1, hw1⟩ : ∃ w1, (w.alloc (.cells #[.int .i64 0, .int .u64 0, .int .u64 0, .int .u64 0, .int .u64 0, .slice none 0 0] 50)).alloc (.cells #[.string s, .int .i64 0, .int .i64 0, .int .i64 0, .int .i64 0] 73) = w1 := ⟨_, rfl⟩
  have hsz1 : w1.heap.size = w.heap.size + 2 := by rw [← hw1]; simp
  have hres : BlkN w1 w.heap.size Nd.zero := by rw [← hw1]; exact (BlkN.new w).alloc _
  have hrg : Rg w1 (w.heap.size + 1) s 0 0 0 0 := by
    rw [← hw1]
    have h := heap_alloc_new (w.alloc (.cells #[.int .i64 0, .int .u64 0, .int .u64 0, .int .u64 0, .int .u64 0, .slice none 0 0] 50)) (.cells #[.string s, .int .i64 0, .int .i64 0, .int .i64 0, .int .i64 0] 73)
    rw [show (w.alloc (.cells #[.int .i64 0, .int .u64 0, .int .u64 0, .int .u64 0, .int .u64 0, .slice none 0 0] 50)).heap.size = w.heap.size + 1 from by simp] at h
    exact h
  have hbel : Below w.heap.size w w1 := by rw [← hw1]; exact ((Below.refl _ _).alloc (Nat.le_refl _) _).alloc (by simp) _
  have hll : s.data.toList.length = s.size := by simp
  have PA := rpat_any (w.heap.size + 1) s 0 (grpR withW notW orW 20) s.data.toList w1 (by rw [hll, Nat.sub_self]; exact hrg) (List.suffix_refl _) (by omega) (rgrp_ok _ s (by omega) 20 0 rfl) (rg_grpR_len 20)
  have hst : topR withW notW orW s.data.toList = match patR withW notW orW (grpR withW notW orW 20) s.data.toList with
      | .error x => .error x
      | .ok (t, r) => match r with
        | [] => .ok (t, [])
        | _ :: r2 => .error (r2.length + 1, 9) := by
    unfold topR
    cases patR withW notW orW (grpR withW notW orW 20) s.data.toList with
    | error x => rfl
    | ok x => obtain ⟨t, r2⟩ := x; cases r2 <;> rfl
  have hW1 := Lib.hid hw1
  have HBEL := Lib.hid hbel
  have HRES := Lib.hid hres
  have HSZ := Lib.hid hsz1
  have DY := Lib.hid fun W bad er H => rdone_yes (w.heap.size + 1) s 0 bad er W H
  have hsi : ¬ 300 < (s.size : Int) := by omega
  clear hw1 hsz1 hres hrg hbel hll
  unfold ParP
  cases hx : patR withW notW orW (grpR withW notW orW 20) s.data.toList with
  | error y =>
    obtain ⟨bd, er⟩ := y
    rw [hx] at hst PA
    simp only at hst
    rw [hst]
    have PA := Lib.hid PA
    clear hx hst
    go_enter Tryd.func20, Tryd.ntmps20
    go_wp2_with fail
    rw [hW1.out]
    refine PA.out.mono ?_
    rintro e w2 ⟨her, hbd, v, rfl, ⟨nd, rfl⟩, hr2, o2⟩
    have HE := Lib.hid (And.intro her hbd)
    unfold Nd.val
    have HR3 := Lib.hid (hr2.alloc (.cells #[.int .i64 nd.op, .int .u64 nd.set.a, .int .u64 nd.set.b, .int .u64 nd.set.c, .int .u64 nd.set.d, .slice nd.kp nd.kn nd.kc] 50))
    have HB3 := Lib.hid ((HBEL.out.trans (o2.below (by omega) (by have := HSZ.out; omega))).alloc (by have := HBEL.out.size; have := o2.size; omega) (.cells #[.int .i64 nd.op, .int .u64 nd.set.a, .int .u64 nd.set.b, .int .u64 nd.set.c, .int .u64 nd.set.d, .slice nd.kp nd.kn nd.kc] 50))
    have HN3 := Lib.hid ((HRES.out.onl o2 (by omega)).alloc (.cells #[.int .i64 nd.op, .int .u64 nd.set.a, .int .u64 nd.set.b, .int .u64 nd.set.c, .int .u64 nd.set.d, .slice nd.kp nd.kn nd.kc] 50))
    clear her hbd hr2 o2
    go_wp2_with fail
    generalize w2.alloc (.cells #[.int .i64 nd.op, .int .u64 nd.set.a, .int .u64 nd.set.b, .int .u64 nd.set.c, .int .u64 nd.set.d, .slice nd.kp nd.kn nd.kc] 50) = w3 at *
    refine (DY.out w3 _ _ HR3.out).mono ?_
    rintro e w4 ⟨rfl, m4, rfl⟩
    obtain ⟨c0, c1, c2, c3, c4, f1, f2, f3, f4⟩ := HR3.out.cells
    have hek : ((er : Int) != 0) = true := by rw [bne_iff_ne]; rcases HE.out.1 with h | h <;> omega
    obtain ⟨d0, d1, d2, d3, d4, d5, k0, k1, k2, k3, k4, k5⟩ := HN3.out.cells
    go_wp2_with fail
    go_region
    all_goals
      go_wp2_with fail
      exact bodyPost_ret (v := .tuple #[Nd.zero.val, .int .i64 ((s.size - bd : Nat) : Int), .int .i64 (er : Int)]) (by simp [results, Tryd.results20, go_sem, Nd.val, Nd.zero, W4.zero, d0, d1, d2, d3, d4, d5]) rfl ⟨(Below.put6 (rg_bN HB3.out _) (Nat.le_refl _) Nd.zero), .inr ⟨bd, er, rfl, HE.out.1, HE.out.2, rfl⟩⟩
  | ok y =>
    obtain ⟨t, r⟩ := y
    rw [hx] at hst PA
    simp only at hst
    have PA := Lib.hid PA
    clear hx
    rcases r with _ | ⟨x, r⟩
    · simp only at hst
      rw [hst]
      clear hst
      go_enter Tryd.func20, Tryd.ntmps20
      go_wp2_with fail
      rw [hW1.out]
      refine PA.out.mono ?_
      rintro e w2 ⟨hs2, v, rfl, ⟨nd, rfl, ht⟩, hr2, o2⟩
      change Rg w2 (w.heap.size + 1) s s.size 0 0 0 at hr2
      have HT := Lib.hid (TreeN.kept (w' := w2.alloc (.cells #[.int .i64 nd.op, .int .u64 nd.set.a, .int .u64 nd.set.b, .int .u64 nd.set.c, .int .u64 nd.set.d, .slice nd.kp nd.kn nd.kc] 50)) (B' := fun k => w.heap.size + 1 ≤ k) (fun k _ hk => Below.heap_alloc _ _ k hk) (fun k hk _ => by have := HSZ.out; omega) _ _ ht)
      unfold Nd.val
      have HR3 := Lib.hid (hr2.alloc (.cells #[.int .i64 nd.op, .int .u64 nd.set.a, .int .u64 nd.set.b, .int .u64 nd.set.c, .int .u64 nd.set.d, .slice nd.kp nd.kn nd.kc] 50))
      have HB3 := Lib.hid ((HBEL.out.trans (o2.below (by omega) (by have := HSZ.out; omega))).alloc (by have := HBEL.out.size; have := o2.size; omega) (.cells #[.int .i64 nd.op, .int .u64 nd.set.a, .int .u64 nd.set.b, .int .u64 nd.set.c, .int .u64 nd.set.d, .slice nd.kp nd.kn nd.kc] 50))
      have HN3 := Lib.hid ((HRES.out.onl o2 (by omega)).alloc (.cells #[.int .i64 nd.op, .int .u64 nd.set.a, .int .u64 nd.set.b, .int .u64 nd.set.c, .int .u64 nd.set.d, .slice nd.kp nd.kn nd.kc] 50))
      have HM3 : Hid (BlkN (w2.alloc (.cells #[.int .i64 nd.op, .int .u64 nd.set.a, .int .u64 nd.set.b, .int .u64 nd.set.c, .int .u64 nd.set.d, .slice nd.kp nd.kn nd.kc] 50)) w2.heap.size nd) := Lib.hid (heap_alloc_new w2 _)
      have HG3 : Hid (w2.heap.size ≠ w.heap.size) := Lib.hid (by have := HBEL.out.size; have := o2.size; have := HSZ.out; omega)
      clear ht hr2 o2 hs2
      go_wp2_with fail
      generalize w2.alloc (.cells #[.int .i64 nd.op, .int .u64 nd.set.a, .int .u64 nd.set.b, .int .u64 nd.set.c, .int .u64 nd.set.d, .slice nd.kp nd.kn nd.kc] 50) = w3 at *
      generalize w2.heap.size = g3 at *
      refine (DY.out w3 _ _ HR3.out).mono ?_
      rintro e w4 ⟨rfl, m4, rfl⟩
      obtain ⟨c0, c1, c2, c3, c4, f1, f2, f3, f4⟩ := HR3.out.cells
      obtain ⟨d0, d1, d2, d3, d4, d5, k0, k1, k2, k3, k4, k5⟩ := HN3.out.cells
      obtain ⟨m0, m1, m2, m3, m5, m6, _, _, _, _, _, _⟩ := HM3.out.cells
      go_wp2_with fail
      exact bodyPost_ret (v := .tuple #[nd.val, .int .i64 0, .int .i64 0]) (by simp [results, Tryd.results20, go_sem, Nd.val, d0, d1, d2, d3, d4, d5]) rfl ⟨Below.put6 (rg_bN HB3.out _) (Nat.le_refl _) nd, .inl ⟨t, [], nd, rfl, rfl, (TreeN.kept (w := w3) (w' := put6 (w3.drewN m4) w.heap.size nd) (B' := fun k => w.heap.size ≤ k) (fun k hk _ => put6_block (w := w3.drewN m4) (by omega) nd) (fun k hk _ => by omega) _ _ HT.out)⟩⟩
    · simp only at hst
      rw [hst]
      clear hst
      go_enter Tryd.func20, Tryd.ntmps20
      go_wp2_with fail
      rw [hW1.out]
      refine PA.out.mono ?_
      rintro e w2 ⟨hs2, v, rfl, ⟨nd, rfl, ht⟩, hr2, o2⟩
      obtain ⟨p3, hp3, hc3, e5, e6, hr5, hlen5⟩ := rg_cons hs2
      rw [List.length_cons, e5] at hr2
      have DN := Lib.hid fun W H => rdone_no (w.heap.size + 1) s p3 0 0 0 W H hp3
      have FA := Lib.hid fun W H => rfail0 (w.heap.size + 1) s p3 0 0 p3 9 W H
      have HP3 : Hid (s.size - (r.length + 1) = p3 ∧ r.length + 1 ≤ s.size) := Lib.hid ⟨e5, hlen5⟩
      have hp3b : (p3 : Int) ≤ 300 := by omega
      unfold Nd.val
      have HR3 := Lib.hid (hr2.alloc (.cells #[.int .i64 nd.op, .int .u64 nd.set.a, .int .u64 nd.set.b, .int .u64 nd.set.c, .int .u64 nd.set.d, .slice nd.kp nd.kn nd.kc] 50))
      have HB3 := Lib.hid ((HBEL.out.trans (o2.below (by omega) (by have := HSZ.out; omega))).alloc (by have := HBEL.out.size; have := o2.size; omega) (.cells #[.int .i64 nd.op, .int .u64 nd.set.a, .int .u64 nd.set.b, .int .u64 nd.set.c, .int .u64 nd.set.d, .slice nd.kp nd.kn nd.kc] 50))
      have HN3 := Lib.hid ((HRES.out.onl o2 (by omega)).alloc (.cells #[.int .i64 nd.op, .int .u64 nd.set.a, .int .u64 nd.set.b, .int .u64 nd.set.c, .int .u64 nd.set.d, .slice nd.kp nd.kn nd.kc] 50))
      clear hs2 ht hr2 o2 hc3 e5 e6 hr5 hlen5
      go_wp2_with fail
      generalize w2.alloc (.cells #[.int .i64 nd.op, .int .u64 nd.set.a, .int .u64 nd.set.b, .int .u64 nd.set.c, .int .u64 nd.set.d, .slice nd.kp nd.kn nd.kc] 50) = w3 at *
      refine (DN.out w3 HR3.out).mono ?_
      rintro e w4 ⟨rfl, m4, rfl⟩
      obtain ⟨c0, c1, c2, c3, c4, f1, f2, f3, f4⟩ := HR3.out.cells
      go_wp2_with fail
      clear c0 c1 c2 c3 c4 f1 f2 f3 f4
      refine (FA.out (w3.drewN m4) HR3.out).mono ?_
      rintro e w5 ⟨rfl, hr5, o5⟩
      have HR5 := Lib.hid hr5
      have HB5 := Lib.hid ((rg_bN HB3.out m4).trans (o5.below (by omega) (by exact HB3.out.size)))
      have HN5 := Lib.hid ((HN3.out.drewN m4).onl o5 (by omega))
      clear hr5 o5 HR3 HB3 HN3
      obtain ⟨c0, c1, c2, c3, c4, f1, f2, f3, f4⟩ := HR5.out.cells
      obtain ⟨d0, d1, d2, d3, d4, d5, k0, k1, k2, k3, k4, k5⟩ := HN5.out.cells
      go_wp2_with fail
      go_region
      all_goals
        go_wp2_with fail
        exact bodyPost_ret (v := .tuple #[Nd.zero.val, .int .i64 ((p3 : Nat) : Int), .int .i64 ((9 : Nat) : Int)]) (by simp [results, Tryd.results20, go_sem, Nd.val, Nd.zero, W4.zero, d0, d1, d2, d3, d4, d5]) rfl ⟨(Below.put6 HB5.out (Nat.le_refl _) Nd.zero).drew, .inr ⟨r.length + 1, 9, rfl, .inl rfl, HP3.out.2, by rw [HP3.out.1]⟩⟩
end Go.Proofs.YtjjejcgpeefclaaDoor
