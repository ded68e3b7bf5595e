/-
  CONTRACT of layer 9's Parse: any text of at most 300 bytes is the tree that it is, or told where it isn't one.
-/
import Derived.Test.YtmlpkimbcjkbkaaGreatDoorRgQ
namespace Go.Proofs.YtmlpkimbcjkbkaaGreatDoor
open Go.RowKit

set_option maxHeartbeats 8000000 in
set_option maxRecDepth 100000 in
theorem rgrp_zero (b : Nat) (s : ByteArray) (hs : s.size ≤ 10000) : GrpOk b s 20 (grpR withW notW orW 0) := by
  intro r w h hl
  have HB : Hid (b ≠ w.heap.size) := Lib.hid (by have := h.lt; omega)
  have hblt := h.lt
  rw [show grpR withW notW orW 0 r = .error (r.length + 1, 14) from rfl]
  have hlen : r.length + 1 ≤ s.size := by have := rg_len hl; simpa using this
  have hqb : ((s.size - (r.length + 1) : Nat) : Int) ≤ 100000 := by omega
  have FA := Lib.hid fun W H => rfail0 b s (s.size - (r.length + 1)) 20 0 (s.size - (r.length + 1)) 14 W H
  have HR := Lib.hid (h.alloc (.cells #[.int .i64 0, .int .u64 0, .int .u64 0, .int .u64 0, .int .u64 0, .slice none 0 0] 45))
  have HO := Lib.hid ((Onl.refl b w).alloc (.cells #[.int .i64 0, .int .u64 0, .int .u64 0, .int .u64 0, .int .u64 0, .slice none 0 0] 45))
  have HN := Lib.hid (BlkN.new w)
  obtain ⟨c0, c1, c2, c3, c4, f1, f2, f3, f4⟩ := h.cells
  clear h hl
  go_enter Tryz.func104, Tryz.ntmps104
  go_wp2_with fail
  generalize w.alloc (.cells #[.int .i64 0, .int .u64 0, .int .u64 0, .int .u64 0, .int .u64 0, .slice none 0 0] 45) = w1 at *
  refine (FA.out w1 HR.out).mono ?_
  rintro e w2 ⟨rfl, hr9, o9⟩
  have HR9 := Lib.hid hr9
  have HO9 := Lib.hid (HO.out.trans o9)
  have HN9 := Lib.hid (HN.out.onl o9 (fun e => HB.out e.symm))
  clear hr9 o9
  obtain ⟨d0, d1, d2, d3, d4, d5, k0, k1, k2, k3, k4, k5⟩ := HN9.out.cells
  go_wp2_with fail
  exact bodyPost_ret (v := Nd.zero.val) (by simp [results, Tryz.results104, go_sem, Nd.val, Nd.zero, W4.zero, d0, d1, d2, d3, d4, d5]) rfl (by
    have hR := HR9.out.put6 (fun e => HB.out e.symm) Nd.zero
    have hO := HO9.out.put6 (Nat.le_refl _) Nd.zero
    exact ⟨.inr rfl, hlen, _, rfl, ⟨_, rfl⟩, hR, hO⟩)
set_option maxHeartbeats 8000000 in
set_option maxRecDepth 100000 in
theorem rgrp_succ (b : Nat) (s : ByteArray) (hs : s.size ≤ 10000) (op d : Nat) (hop : op ≤ 19) (ih : GrpOk b s (op + 1) (grpR withW notW orW d)) : GrpOk b s op (grpR withW notW orW (d + 1)) := by
  intro r w h hl
  have HB : Hid (b ≠ w.heap.size) := Lib.hid (by have := h.lt; omega)
  have hblt := h.lt
  obtain ⟨q, hq, hqc, e3, e4, hr, hlen⟩ := rg_cons hl
  rw [e3] at h
  have HPA := Lib.hid fun W (H : Rg W b s (q + 1) (op + 1) 0 0) => rpat_any b s (op + 1) (grpR withW notW orW d) r W (by rw [e4]; exact H) hr hs ih (rg_grpR_len d)
  have HQ : Hid (s.size - (r.length + 1) = q) := Lib.hid e3
  have TE := Lib.hid fun W bad er (c : Int) H => rtake_end b s op bad er c W H
  have F0 := Lib.hid fun W p H => rfail0 b s p op 0 q 9 W H
  have F1 := Lib.hid fun W bad er he H => rfail1 b s s.size op bad er q 9 W H he
  have hopz : ((op : Int) == 20) = false := by rw [Bool.eq_false_iff]; simp; omega
  have hop2 : (op : Int) ≤ 19 := by omega
  have hqb : (q : Int) ≤ 100000 := by omega
  have HR1 := Lib.hid (((h.setP (q + 1)).setO (op + 1)).alloc (.cells #[.int .i64 0, .int .u64 0, .int .u64 0, .int .u64 0, .int .u64 0, .slice none 0 0] 45))
  have HO1 := Lib.hid ((((Onl.refl b w).setCell 1 (.int .i64 ((q + 1 : Nat) : Int))).setCell 2 (.int .i64 ((op + 1 : Nat) : Int))).alloc (.cells #[.int .i64 0, .int .u64 0, .int .u64 0, .int .u64 0, .int .u64 0, .slice none 0 0] 45))
  have HN1 : Hid (BlkN (((w.setCell ⟨b, 1, none⟩ (.int .i64 ((q + 1 : Nat) : Int))).setCell ⟨b, 2, none⟩ (.int .i64 ((op + 1 : Nat) : Int))).alloc (.cells #[.int .i64 0, .int .u64 0, .int .u64 0, .int .u64 0, .int .u64 0, .slice none 0 0] 45)) w.heap.size Nd.zero) := Lib.hid (by
    have := BlkN.new ((w.setCell ⟨b, 1, none⟩ (.int .i64 ((q + 1 : Nat) : Int))).setCell ⟨b, 2, none⟩ (.int .i64 ((op + 1 : Nat) : Int)))
    rwa [World.size_setCell, World.size_setCell] at this)
  have HSZ : Hid ((((w.setCell ⟨b, 1, none⟩ (.int .i64 ((q + 1 : Nat) : Int))).setCell ⟨b, 2, none⟩ (.int .i64 ((op + 1 : Nat) : Int))).alloc (.cells #[.int .i64 0, .int .u64 0, .int .u64 0, .int .u64 0, .int .u64 0, .slice none 0 0] 45)).heap.size = w.heap.size + 1) := Lib.hid (by simp)
  rw [show ((q + 1 : Nat) : Int) = (q : Int) + 1 from rfl, show ((op + 1 : Nat) : Int) = (op : Int) + 1 from rfl] at HR1 HO1 HN1 HSZ
  have hstep : grpR withW notW orW (d + 1) r = match patR withW notW orW (grpR withW notW orW d) r with
      | .error x => .error x
      | .ok (t, r2) => match r2 with
        | [] => .error (r.length + 1, 9)
        | c :: r3 => if c = 41 then .ok (t, r3) else .error (r.length + 1, 9) := by
    conv => lhs; unfold grpR
    cases patR withW notW orW (grpR withW notW orW d) r with
    | error x => rfl
    | ok x => obtain ⟨t, r2⟩ := x; cases r2 <;> rfl
  rw [hstep]
  have hlen2 : r.length + 1 ≤ s.size := hlen
  obtain ⟨c0, c1, c2, c3, c4, f1, f2, f3, f4⟩ := h.cells
  clear h hl hr e3 e4 hqc hlen hstep ih
  cases hx : patR withW notW orW (grpR withW notW orW d) r with
  | error y =>
    obtain ⟨bd, er⟩ := y
    rw [hx] at HPA
    clear hx
    go_enter Tryz.func104, Tryz.ntmps104
    go_wp2_with fail
    generalize ((w.setCell ⟨b, 1, none⟩ (.int .i64 ((q : Int) + 1))).setCell ⟨b, 2, none⟩ (.int .i64 ((op : Int) + 1))).alloc (.cells #[.int .i64 0, .int .u64 0, .int .u64 0, .int .u64 0, .int .u64 0, .slice none 0 0] 45) = w1 at *
    refine (HPA.out w1 HR1.out).mono ?_
    rintro e w3 ⟨her, hbd, v, rfl, ⟨nd, rfl⟩, hr3, o3⟩
    have HE := Lib.hid (And.intro her hbd)
    have HR3 := Lib.hid hr3
    have HO3 := Lib.hid (HO1.out.trans o3)
    have HN3 := Lib.hid (HN1.out.onl o3 (fun e => HB.out e.symm))
    clear her hbd hr3 o3
    unfold Nd.val
    have HSZ3 : Hid (b ≠ w3.heap.size ∧ w.heap.size ≠ w3.heap.size) := Lib.hid ⟨by have := HR3.out.lt; omega, by have := HN3.out.lt; omega⟩
    have hb3 := HR3.out.lt
    have HR4 := Lib.hid ((HR3.out.setO op).alloc (.cells #[.int .i64 nd.op, .int .u64 nd.set.a, .int .u64 nd.set.b, .int .u64 nd.set.c, .int .u64 nd.set.d, .slice nd.kp nd.kn nd.kc] 45))
    have HO4 := Lib.hid ((HO3.out.setCell 2 (.int .i64 (op : Int))).alloc (.cells #[.int .i64 nd.op, .int .u64 nd.set.a, .int .u64 nd.set.b, .int .u64 nd.set.c, .int .u64 nd.set.d, .slice nd.kp nd.kn nd.kc] 45))
    have HN4 := Lib.hid ((HN3.out.setNew (p := ⟨b, 2, none⟩) HB.out (.int .i64 (op : Int))).alloc (.cells #[.int .i64 nd.op, .int .u64 nd.set.a, .int .u64 nd.set.b, .int .u64 nd.set.c, .int .u64 nd.set.d, .slice nd.kp nd.kn nd.kc] 45))
    have HM4 : Hid (BlkN ((w3.setCell ⟨b, 2, none⟩ (.int .i64 (op : Int))).alloc (.cells #[.int .i64 nd.op, .int .u64 nd.set.a, .int .u64 nd.set.b, .int .u64 nd.set.c, .int .u64 nd.set.d, .slice nd.kp nd.kn nd.kc] 45)) w3.heap.size nd) := Lib.hid (by
      have h := heap_alloc_new (w3.setCell ⟨b, 2, none⟩ (.int .i64 (op : Int))) (.cells #[.int .i64 nd.op, .int .u64 nd.set.a, .int .u64 nd.set.b, .int .u64 nd.set.c, .int .u64 nd.set.d, .slice nd.kp nd.kn nd.kc] 45)
      rw [World.size_setCell] at h
      exact h)
    obtain ⟨c0, c1, c2, c3, c4, f1, f2, f3, f4⟩ := HR3.out.cells
    go_wp2_with fail
    generalize hw4 : (w3.setCell ⟨b, 2, none⟩ (.int .i64 (op : Int))).alloc (.cells #[.int .i64 nd.op, .int .u64 nd.set.a, .int .u64 nd.set.b, .int .u64 nd.set.c, .int .u64 nd.set.d, .slice nd.kp nd.kn nd.kc] 45) = w4 at *
    clear hw4 c0 c1 c2 c3 c4 f1 f2 f3 f4
    generalize w3.heap.size = g4 at *
    have HG4 : Hid (g4 ≠ b) := Lib.hid (fun e => HSZ3.out.1 e.symm)
    refine (TE.out w4 _ _ 41 HR4.out).mono ?_
    rintro e w7 ⟨rfl, m7, rfl⟩
    have HR8 := Lib.hid (HR4.out.drewN m7)
    have HO8 := Lib.hid (HO4.out.drewN (n := m7))
    have HN8 := Lib.hid (HN4.out.drewN m7)
    have HM8 := Lib.hid (HM4.out.drewN m7)
    clear HR4 HO4 HN4 HM4
    go_wp2_with fail
    generalize w4.drewN m7 = w8 at *
    refine (F1.out w8 _ _ (by rcases HE.out.1 with h | h <;> omega) HR8.out).mono ?_
    rintro e w9 ⟨rfl, hr9, o9⟩
    have HR9 := Lib.hid hr9
    have HO9 := Lib.hid (HO8.out.trans o9)
    have HN9 := Lib.hid (HN8.out.onl o9 (fun e => HB.out e.symm))
    have HM9 := Lib.hid (HM8.out.onl o9 HG4.out)
    clear hr9 o9
    obtain ⟨d0, d1, d2, d3, d4, d5, k0, k1, k2, k3, k4, k5⟩ := HN9.out.cells
    obtain ⟨m0, m1, m2, m3, m4, m5, _, _, _, _, _, _⟩ := HM9.out.cells
    go_wp2_with fail
    exact bodyPost_ret (v := nd.val) (by simp [results, Tryz.results104, go_sem, Nd.val, d0, d1, d2, d3, d4, d5]) rfl (by
      have hR := HR9.out.put6 (fun e => HB.out e.symm) nd
      have hO := HO9.out.put6 (Nat.le_refl _) nd
      exact ⟨HE.out.1, HE.out.2, _, rfl, ⟨_, rfl⟩, hR, hO⟩)
  | ok y =>
    obtain ⟨t, r2⟩ := y
    rw [hx] at HPA
    clear hx
    rcases r2 with _ | ⟨x, r3⟩
    · simp only
      go_enter Tryz.func104, Tryz.ntmps104
      go_wp2_with fail
      generalize ((w.setCell ⟨b, 1, none⟩ (.int .i64 ((q : Int) + 1))).setCell ⟨b, 2, none⟩ (.int .i64 ((op : Int) + 1))).alloc (.cells #[.int .i64 0, .int .u64 0, .int .u64 0, .int .u64 0, .int .u64 0, .slice none 0 0] 45) = w1 at *
      refine (HPA.out w1 HR1.out).mono ?_
      rintro e w3 ⟨hs3, v, rfl, ⟨nd, rfl, ht⟩, hr3, o3⟩
      change Rg w3 b s s.size (op + 1) 0 0 at hr3
      have HR3 := Lib.hid hr3
      have HO3 := Lib.hid (HO1.out.trans o3)
      have HN3 := Lib.hid (HN1.out.onl o3 (fun e => HB.out e.symm))
      clear hs3 ht hr3 o3
      unfold Nd.val
      have HSZ3 : Hid (b ≠ w3.heap.size ∧ w.heap.size ≠ w3.heap.size) := Lib.hid ⟨by have := HR3.out.lt; omega, by have := HN3.out.lt; omega⟩
      have hb3 := HR3.out.lt
      have HR4 := Lib.hid ((HR3.out.setO op).alloc (.cells #[.int .i64 nd.op, .int .u64 nd.set.a, .int .u64 nd.set.b, .int .u64 nd.set.c, .int .u64 nd.set.d, .slice nd.kp nd.kn nd.kc] 45))
      have HO4 := Lib.hid ((HO3.out.setCell 2 (.int .i64 (op : Int))).alloc (.cells #[.int .i64 nd.op, .int .u64 nd.set.a, .int .u64 nd.set.b, .int .u64 nd.set.c, .int .u64 nd.set.d, .slice nd.kp nd.kn nd.kc] 45))
      have HN4 := Lib.hid ((HN3.out.setNew (p := ⟨b, 2, none⟩) HB.out (.int .i64 (op : Int))).alloc (.cells #[.int .i64 nd.op, .int .u64 nd.set.a, .int .u64 nd.set.b, .int .u64 nd.set.c, .int .u64 nd.set.d, .slice nd.kp nd.kn nd.kc] 45))
      have HM4 : Hid (BlkN ((w3.setCell ⟨b, 2, none⟩ (.int .i64 (op : Int))).alloc (.cells #[.int .i64 nd.op, .int .u64 nd.set.a, .int .u64 nd.set.b, .int .u64 nd.set.c, .int .u64 nd.set.d, .slice nd.kp nd.kn nd.kc] 45)) w3.heap.size nd) := Lib.hid (by
        have h := heap_alloc_new (w3.setCell ⟨b, 2, none⟩ (.int .i64 (op : Int))) (.cells #[.int .i64 nd.op, .int .u64 nd.set.a, .int .u64 nd.set.b, .int .u64 nd.set.c, .int .u64 nd.set.d, .slice nd.kp nd.kn nd.kc] 45)
        rw [World.size_setCell] at h
        exact h)
      obtain ⟨c0, c1, c2, c3, c4, f1, f2, f3, f4⟩ := HR3.out.cells
      go_wp2_with fail
      generalize hw4 : (w3.setCell ⟨b, 2, none⟩ (.int .i64 (op : Int))).alloc (.cells #[.int .i64 nd.op, .int .u64 nd.set.a, .int .u64 nd.set.b, .int .u64 nd.set.c, .int .u64 nd.set.d, .slice nd.kp nd.kn nd.kc] 45) = w4 at *
      clear hw4 c0 c1 c2 c3 c4 f1 f2 f3 f4
      generalize w3.heap.size = g4 at *
      have HG4 : Hid (g4 ≠ b) := Lib.hid (fun e => HSZ3.out.1 e.symm)
      refine (TE.out w4 _ _ 41 HR4.out).mono ?_
      rintro e w7 ⟨rfl, m7, rfl⟩
      have HR8 := Lib.hid (HR4.out.drewN m7)
      have HO8 := Lib.hid (HO4.out.drewN (n := m7))
      have HN8 := Lib.hid (HN4.out.drewN m7)
      have HM8 := Lib.hid (HM4.out.drewN m7)
      clear HR4 HO4 HN4 HM4
      go_wp2_with fail
      generalize w4.drewN m7 = w8 at *
      refine (F0.out w8 _ HR8.out).mono ?_
      rintro e w9 ⟨rfl, hr9, o9⟩
      have HR9 := Lib.hid hr9
      have HO9 := Lib.hid (HO8.out.trans o9)
      have HN9 := Lib.hid (HN8.out.onl o9 (fun e => HB.out e.symm))
      have HM9 := Lib.hid (HM8.out.onl o9 HG4.out)
      clear hr9 o9
      obtain ⟨d0, d1, d2, d3, d4, d5, k0, k1, k2, k3, k4, k5⟩ := HN9.out.cells
      obtain ⟨m0, m1, m2, m3, m4, m5, _, _, _, _, _, _⟩ := HM9.out.cells
      go_wp2_with fail
      exact bodyPost_ret (v := nd.val) (by simp [results, Tryz.results104, go_sem, Nd.val, d0, d1, d2, d3, d4, d5]) rfl (by
        have hR := HR9.out.put6 (fun e => HB.out e.symm) nd
        have hO := HO9.out.put6 (Nat.le_refl _) nd
        exact ⟨.inl rfl, hlen2, _, rfl, ⟨_, rfl⟩, by rw [HQ.out]; exact hR, hO⟩)
    · simp only
      by_cases hx41 : x = 41
      · rw [if_pos hx41]
        go_enter Tryz.func104, Tryz.ntmps104
        go_wp2_with fail
        generalize ((w.setCell ⟨b, 1, none⟩ (.int .i64 ((q : Int) + 1))).setCell ⟨b, 2, none⟩ (.int .i64 ((op : Int) + 1))).alloc (.cells #[.int .i64 0, .int .u64 0, .int .u64 0, .int .u64 0, .int .u64 0, .slice none 0 0] 45) = w1 at *
        refine (HPA.out w1 HR1.out).mono ?_
        rintro e w3 ⟨hs3, v, rfl, ⟨nd, rfl, ht⟩, hr3, o3⟩
        obtain ⟨p3, hp3, hc3, e5, e6, hr5, hlen5⟩ := rg_cons hs3
        rw [List.length_cons, e5] at hr3
        have TK := Lib.hid fun W H => rtake_yes b s p3 op 0 0 41 W H hp3 (by rw [hc3]; exact hx41) (by omega)
        rw [show (((41 : UInt8).toNat : Nat) : Int) = 41 from rfl] at TK
        have HS5 := Lib.hid (And.intro hr5 e6)
        have HT := Lib.hid ht
        have HR3 := Lib.hid hr3
        have HO3 := Lib.hid (HO1.out.trans o3)
        have HN3 := Lib.hid (HN1.out.onl o3 (fun e => HB.out e.symm))
        clear hs3 ht hr3 o3 hc3 e5 e6 hr5 hlen5 hx41
        unfold Nd.val
        have HSZ3 : Hid (b ≠ w3.heap.size ∧ w.heap.size ≠ w3.heap.size) := Lib.hid ⟨by have := HR3.out.lt; omega, by have := HN3.out.lt; omega⟩
        have hb3 := HR3.out.lt
        have HR4 := Lib.hid ((HR3.out.setO op).alloc (.cells #[.int .i64 nd.op, .int .u64 nd.set.a, .int .u64 nd.set.b, .int .u64 nd.set.c, .int .u64 nd.set.d, .slice nd.kp nd.kn nd.kc] 45))
        have HO4 := Lib.hid ((HO3.out.setCell 2 (.int .i64 (op : Int))).alloc (.cells #[.int .i64 nd.op, .int .u64 nd.set.a, .int .u64 nd.set.b, .int .u64 nd.set.c, .int .u64 nd.set.d, .slice nd.kp nd.kn nd.kc] 45))
        have HN4 := Lib.hid ((HN3.out.setNew (p := ⟨b, 2, none⟩) HB.out (.int .i64 (op : Int))).alloc (.cells #[.int .i64 nd.op, .int .u64 nd.set.a, .int .u64 nd.set.b, .int .u64 nd.set.c, .int .u64 nd.set.d, .slice nd.kp nd.kn nd.kc] 45))
        have HM4 : Hid (BlkN ((w3.setCell ⟨b, 2, none⟩ (.int .i64 (op : Int))).alloc (.cells #[.int .i64 nd.op, .int .u64 nd.set.a, .int .u64 nd.set.b, .int .u64 nd.set.c, .int .u64 nd.set.d, .slice nd.kp nd.kn nd.kc] 45)) w3.heap.size nd) := Lib.hid (by
          have h := heap_alloc_new (w3.setCell ⟨b, 2, none⟩ (.int .i64 (op : Int))) (.cells #[.int .i64 nd.op, .int .u64 nd.set.a, .int .u64 nd.set.b, .int .u64 nd.set.c, .int .u64 nd.set.d, .slice nd.kp nd.kn nd.kc] 45)
          rw [World.size_setCell] at h
          exact h)
        obtain ⟨c0, c1, c2, c3, c4, f1, f2, f3, f4⟩ := HR3.out.cells
        have HT4 : Hid (TreeN ((w3.setCell ⟨b, 2, none⟩ (.int .i64 (op : Int))).alloc (.cells #[.int .i64 nd.op, .int .u64 nd.set.a, .int .u64 nd.set.b, .int .u64 nd.set.c, .int .u64 nd.set.d, .slice nd.kp nd.kn nd.kc] 45)) (fun k => w.heap.size + 1 ≤ k) t nd) := Lib.hid (HT.out.kept (fun k hk hl => by
          have h1 := HSZ.out
          exact (Below.heap_alloc _ _ k (by rw [World.size_setCell]; exact hl)).trans (Below.heap_setCell _ _ _ k (by show k ≠ b; omega))) (fun k hk _ => by have h1 := HSZ.out; omega))
        clear HT
        go_wp2_with fail
        generalize hw4 : (w3.setCell ⟨b, 2, none⟩ (.int .i64 (op : Int))).alloc (.cells #[.int .i64 nd.op, .int .u64 nd.set.a, .int .u64 nd.set.b, .int .u64 nd.set.c, .int .u64 nd.set.d, .slice nd.kp nd.kn nd.kc] 45) = w4 at *
        clear hw4 c0 c1 c2 c3 c4 f1 f2 f3 f4
        generalize w3.heap.size = g4 at *
        have HG4 : Hid (g4 ≠ b) := Lib.hid (fun e => HSZ3.out.1 e.symm)
        have HT4 : Hid (TreeN w4 (fun k => w.heap.size + 1 ≤ k) t nd) := HT4
        refine (TK.out w4 HR4.out).mono ?_
        rintro e w9 ⟨rfl, hr9, o9⟩
        have HT9 := Lib.hid (HT4.out.kept (w' := w9) (B' := fun k => w.heap.size + 1 ≤ k) (fun k hk hl => o9.block k hl (by omega)) (fun k hk _ => hk))
        have HO8 := HO4
        have HN8 := HN4
        have HM8 := HM4
        have HR9 := Lib.hid hr9
        have HO9 := Lib.hid (HO8.out.trans o9)
        have HN9 := Lib.hid (HN8.out.onl o9 (fun e => HB.out e.symm))
        have HM9 := Lib.hid (HM8.out.onl o9 HG4.out)
        clear hr9 o9
        obtain ⟨d0, d1, d2, d3, d4, d5, k0, k1, k2, k3, k4, k5⟩ := HN9.out.cells
        obtain ⟨m0, m1, m2, m3, m4, m5, _, _, _, _, _, _⟩ := HM9.out.cells
        go_wp2_with fail
        exact bodyPost_ret (v := nd.val) (by simp [results, Tryz.results104, go_sem, Nd.val, d0, d1, d2, d3, d4, d5]) rfl (by
          have hR := HR9.out.put6 (fun e => HB.out e.symm) nd
          have hO := HO9.out.put6 (Nat.le_refl _) nd
          exact ⟨HS5.out.1, _, rfl, VN.stored HT9.out (Nat.lt_succ_self _), by rw [HS5.out.2]; exact hR, hO⟩)
      · rw [if_neg hx41]
        go_enter Tryz.func104, Tryz.ntmps104
        go_wp2_with fail
        generalize ((w.setCell ⟨b, 1, none⟩ (.int .i64 ((q : Int) + 1))).setCell ⟨b, 2, none⟩ (.int .i64 ((op : Int) + 1))).alloc (.cells #[.int .i64 0, .int .u64 0, .int .u64 0, .int .u64 0, .int .u64 0, .slice none 0 0] 45) = w1 at *
        refine (HPA.out w1 HR1.out).mono ?_
        rintro e w3 ⟨hs3, v, rfl, ⟨nd, rfl, ht⟩, hr3, o3⟩
        obtain ⟨p3, hp3, hc3, e5, e6, hr5, hlen5⟩ := rg_cons hs3
        rw [List.length_cons, e5] at hr3
        have TK := Lib.hid fun W H => rtake_no b s p3 op 0 0 41 W H hp3 (by rw [hc3]; exact hx41)
        rw [show (((41 : UInt8).toNat : Nat) : Int) = 41 from rfl] at TK
        have HR3 := Lib.hid hr3
        have HO3 := Lib.hid (HO1.out.trans o3)
        have HN3 := Lib.hid (HN1.out.onl o3 (fun e => HB.out e.symm))
        clear hs3 ht hr3 o3 hc3 e5 e6 hr5 hlen5 hx41
        unfold Nd.val
        have HSZ3 : Hid (b ≠ w3.heap.size ∧ w.heap.size ≠ w3.heap.size) := Lib.hid ⟨by have := HR3.out.lt; omega, by have := HN3.out.lt; omega⟩
        have hb3 := HR3.out.lt
        have HR4 := Lib.hid ((HR3.out.setO op).alloc (.cells #[.int .i64 nd.op, .int .u64 nd.set.a, .int .u64 nd.set.b, .int .u64 nd.set.c, .int .u64 nd.set.d, .slice nd.kp nd.kn nd.kc] 45))
        have HO4 := Lib.hid ((HO3.out.setCell 2 (.int .i64 (op : Int))).alloc (.cells #[.int .i64 nd.op, .int .u64 nd.set.a, .int .u64 nd.set.b, .int .u64 nd.set.c, .int .u64 nd.set.d, .slice nd.kp nd.kn nd.kc] 45))
        have HN4 := Lib.hid ((HN3.out.setNew (p := ⟨b, 2, none⟩) HB.out (.int .i64 (op : Int))).alloc (.cells #[.int .i64 nd.op, .int .u64 nd.set.a, .int .u64 nd.set.b, .int .u64 nd.set.c, .int .u64 nd.set.d, .slice nd.kp nd.kn nd.kc] 45))
        have HM4 : Hid (BlkN ((w3.setCell ⟨b, 2, none⟩ (.int .i64 (op : Int))).alloc (.cells #[.int .i64 nd.op, .int .u64 nd.set.a, .int .u64 nd.set.b, .int .u64 nd.set.c, .int .u64 nd.set.d, .slice nd.kp nd.kn nd.kc] 45)) w3.heap.size nd) := Lib.hid (by
          have h := heap_alloc_new (w3.setCell ⟨b, 2, none⟩ (.int .i64 (op : Int))) (.cells #[.int .i64 nd.op, .int .u64 nd.set.a, .int .u64 nd.set.b, .int .u64 nd.set.c, .int .u64 nd.set.d, .slice nd.kp nd.kn nd.kc] 45)
          rw [World.size_setCell] at h
          exact h)
        obtain ⟨c0, c1, c2, c3, c4, f1, f2, f3, f4⟩ := HR3.out.cells
        go_wp2_with fail
        generalize hw4 : (w3.setCell ⟨b, 2, none⟩ (.int .i64 (op : Int))).alloc (.cells #[.int .i64 nd.op, .int .u64 nd.set.a, .int .u64 nd.set.b, .int .u64 nd.set.c, .int .u64 nd.set.d, .slice nd.kp nd.kn nd.kc] 45) = w4 at *
        clear hw4 c0 c1 c2 c3 c4 f1 f2 f3 f4
        generalize w3.heap.size = g4 at *
        have HG4 : Hid (g4 ≠ b) := Lib.hid (fun e => HSZ3.out.1 e.symm)
        refine (TK.out w4 HR4.out).mono ?_
        rintro e w7 ⟨rfl, m7, rfl⟩
        have HR8 := Lib.hid (HR4.out.drewN m7)
        have HO8 := Lib.hid (HO4.out.drewN (n := m7))
        have HN8 := Lib.hid (HN4.out.drewN m7)
        have HM8 := Lib.hid (HM4.out.drewN m7)
        clear HR4 HO4 HN4 HM4
        go_wp2_with fail
        generalize w4.drewN m7 = w8 at *
        refine (F0.out w8 _ HR8.out).mono ?_
        rintro e w9 ⟨rfl, hr9, o9⟩
        have HR9 := Lib.hid hr9
        have HO9 := Lib.hid (HO8.out.trans o9)
        have HN9 := Lib.hid (HN8.out.onl o9 (fun e => HB.out e.symm))
        have HM9 := Lib.hid (HM8.out.onl o9 HG4.out)
        clear hr9 o9
        obtain ⟨d0, d1, d2, d3, d4, d5, k0, k1, k2, k3, k4, k5⟩ := HN9.out.cells
        obtain ⟨m0, m1, m2, m3, m4, m5, _, _, _, _, _, _⟩ := HM9.out.cells
        go_wp2_with fail
        exact bodyPost_ret (v := nd.val) (by simp [results, Tryz.results104, go_sem, Nd.val, d0, d1, d2, d3, d4, d5]) rfl (by
          have hR := HR9.out.put6 (fun e => HB.out e.symm) nd
          have hO := HO9.out.put6 (Nat.le_refl _) nd
          exact ⟨.inl rfl, hlen2, _, rfl, ⟨_, rfl⟩, by rw [HQ.out]; exact hR, hO⟩)
theorem rgrp_ok (b : Nat) (s : ByteArray) (hs : s.size ≤ 10000) : ∀ (d op : Nat), op + d = 20 → GrpOk b s op (grpR withW notW orW d)
  | 0, op, h => by obtain rfl : op = 20 := by omega
                   exact rgrp_zero b s hs
  | d + 1, op, h => rgrp_succ b s hs op d (by omega) (rgrp_ok b s hs d (op + 1) (by omega))
end Go.Proofs.YtmlpkimbcjkbkaaGreatDoor

namespace Go.Proofs.YtmlpkimbcjkbkaaGreatDoor
open Go.RowKit

/-- What Parse answers. -/
def ParP (s : ByteArray) (w : World) (e : Ending) (w' : World) : Prop :=
  Below w.heap.size w w' ∧ ((∃ t r nd, topR withW notW orW s.data.toList = .ok (t, r) ∧ e = .returned (.tuple #[Nd.val nd, .int .i64 0, .int .i64 0]) ∧ TreeN w' (fun k => w.heap.size ≤ k) t nd) ∨
    (∃ n k, topR withW notW orW s.data.toList = .error (n, k) ∧ (k = 9 ∨ k = 14) ∧ n ≤ s.size ∧ e = .returned (.tuple #[Nd.zero.val, .int .i64 ((s.size - n : Nat) : Int), .int .i64 (k : Int)])))
theorem Below.put6 {B g : Nat} {a w : World} (h : Below B a w) (hg : B ≤ g) (n : Nd) : Below B a (put6 w g n) :=
  (((((h.setCell (p := ⟨g, 0, none⟩) hg _).setCell (p := ⟨g, 1, none⟩) hg _).setCell (p := ⟨g, 2, none⟩) hg _).setCell (p := ⟨g, 3, none⟩) hg _).setCell (p := ⟨g, 4, none⟩) hg _).setCell (p := ⟨g, 5, none⟩) hg _
set_option maxHeartbeats 8000000 in
set_option maxRecDepth 100000 in
theorem rparse_any (s : ByteArray) (w : World) (hs : s.size ≤ 300) :
    Calls Tryz.prog 13 #[.string s] w (ParP s w) := by
  obtain ⟨w1, hw1⟩ : ∃ w1, (w.alloc (.cells #[.int .i64 0, .int .u64 0, .int .u64 0, .int .u64 0, .int .u64 0, .slice none 0 0] 45)).alloc (.cells #[.string s, .int .i64 0, .int .i64 0, .int .i64 0, .int .i64 0] 78) = w1 := ⟨_, rfl⟩
  have hsz1 : w1.heap.size = w.heap.size + 2 := by rw [← hw1]; simp
  have hres : BlkN w1 w.heap.size Nd.zero := by rw [← hw1]; exact (BlkN.new w).alloc _
  have hrg : Rg w1 (w.heap.size + 1) s 0 0 0 0 := by
    rw [← hw1]
    have h := heap_alloc_new (w.alloc (.cells #[.int .i64 0, .int .u64 0, .int .u64 0, .int .u64 0, .int .u64 0, .slice none 0 0] 45)) (.cells #[.string s, .int .i64 0, .int .i64 0, .int .i64 0, .int .i64 0] 78)
    rw [show (w.alloc (.cells #[.int .i64 0, .int .u64 0, .int .u64 0, .int .u64 0, .int .u64 0, .slice none 0 0] 45)).heap.size = w.heap.size + 1 from by simp] at h
    exact h
  have hbel : Below w.heap.size w w1 := by rw [← hw1]; exact ((Below.refl _ _).alloc (Nat.le_refl _) _).alloc (by simp) _
  have hll : s.data.toList.length = s.size := by simp
  have PA := rpat_any (w.heap.size + 1) s 0 (grpR withW notW orW 20) s.data.toList w1 (by rw [hll, Nat.sub_self]; exact hrg) (List.suffix_refl _) (by omega) (rgrp_ok _ s (by omega) 20 0 rfl) (rg_grpR_len 20)
  have hst : topR withW notW orW s.data.toList = match patR withW notW orW (grpR withW notW orW 20) s.data.toList with
      | .error x => .error x
      | .ok (t, r) => match r with
        | [] => .ok (t, [])
        | _ :: r2 => .error (r2.length + 1, 9) := by
    unfold topR
    cases patR withW notW orW (grpR withW notW orW 20) s.data.toList with
    | error x => rfl
    | ok x => obtain ⟨t, r2⟩ := x; cases r2 <;> rfl
  have hW1 := Lib.hid hw1
  have HBEL := Lib.hid hbel
  have HRES := Lib.hid hres
  have HSZ := Lib.hid hsz1
  have DY := Lib.hid fun W bad er H => rdone_yes (w.heap.size + 1) s 0 bad er W H
  have hsi : ¬ 300 < (s.size : Int) := by omega
  clear hw1 hsz1 hres hrg hbel hll
  unfold ParP
  cases hx : patR withW notW orW (grpR withW notW orW 20) s.data.toList with
  | error y =>
    obtain ⟨bd, er⟩ := y
    rw [hx] at hst PA
    simp only at hst
    rw [hst]
    have PA := Lib.hid PA
    clear hx hst
    go_enter Tryz.func13, Tryz.ntmps13
    go_wp2_with fail
    rw [hW1.out]
    refine PA.out.mono ?_
    rintro e w2 ⟨her, hbd, v, rfl, ⟨nd, rfl⟩, hr2, o2⟩
    have HE := Lib.hid (And.intro her hbd)
    unfold Nd.val
    have HR3 := Lib.hid (hr2.alloc (.cells #[.int .i64 nd.op, .int .u64 nd.set.a, .int .u64 nd.set.b, .int .u64 nd.set.c, .int .u64 nd.set.d, .slice nd.kp nd.kn nd.kc] 45))
    have HB3 := Lib.hid ((HBEL.out.trans (o2.below (by omega) (by have := HSZ.out; omega))).alloc (by have := HBEL.out.size; have := o2.size; omega) (.cells #[.int .i64 nd.op, .int .u64 nd.set.a, .int .u64 nd.set.b, .int .u64 nd.set.c, .int .u64 nd.set.d, .slice nd.kp nd.kn nd.kc] 45))
    have HN3 := Lib.hid ((HRES.out.onl o2 (by omega)).alloc (.cells #[.int .i64 nd.op, .int .u64 nd.set.a, .int .u64 nd.set.b, .int .u64 nd.set.c, .int .u64 nd.set.d, .slice nd.kp nd.kn nd.kc] 45))
    clear her hbd hr2 o2
    go_wp2_with fail
    generalize w2.alloc (.cells #[.int .i64 nd.op, .int .u64 nd.set.a, .int .u64 nd.set.b, .int .u64 nd.set.c, .int .u64 nd.set.d, .slice nd.kp nd.kn nd.kc] 45) = w3 at *
    refine (DY.out w3 _ _ HR3.out).mono ?_
    rintro e w4 ⟨rfl, m4, rfl⟩
    obtain ⟨c0, c1, c2, c3, c4, f1, f2, f3, f4⟩ := HR3.out.cells
    have hek : ((er : Int) != 0) = true := by rw [bne_iff_ne]; rcases HE.out.1 with h | h <;> omega
    obtain ⟨d0, d1, d2, d3, d4, d5, k0, k1, k2, k3, k4, k5⟩ := HN3.out.cells
    go_wp2_with fail
    go_region
    all_goals
      go_wp2_with fail
      exact bodyPost_ret (v := .tuple #[Nd.zero.val, .int .i64 ((s.size - bd : Nat) : Int), .int .i64 (er : Int)]) (by simp [results, Tryz.results13, go_sem, Nd.val, Nd.zero, W4.zero, d0, d1, d2, d3, d4, d5]) rfl ⟨(Below.put6 (rg_bN HB3.out _) (Nat.le_refl _) Nd.zero), .inr ⟨bd, er, rfl, HE.out.1, HE.out.2, rfl⟩⟩
  | ok y =>
    obtain ⟨t, r⟩ := y
    rw [hx] at hst PA
    simp only at hst
    have PA := Lib.hid PA
    clear hx
    rcases r with _ | ⟨x, r⟩
    · simp only at hst
      rw [hst]
      clear hst
      go_enter Tryz.func13, Tryz.ntmps13
      go_wp2_with fail
      rw [hW1.out]
      refine PA.out.mono ?_
      rintro e w2 ⟨hs2, v, rfl, ⟨nd, rfl, ht⟩, hr2, o2⟩
      change Rg w2 (w.heap.size + 1) s s.size 0 0 0 at hr2
      have HT := Lib.hid (TreeN.kept (w' := w2.alloc (.cells #[.int .i64 nd.op, .int .u64 nd.set.a, .int .u64 nd.set.b, .int .u64 nd.set.c, .int .u64 nd.set.d, .slice nd.kp nd.kn nd.kc] 45)) (B' := fun k => w.heap.size + 1 ≤ k) (fun k _ hk => Below.heap_alloc _ _ k hk) (fun k hk _ => by have := HSZ.out; omega) _ _ ht)
      unfold Nd.val
      have HR3 := Lib.hid (hr2.alloc (.cells #[.int .i64 nd.op, .int .u64 nd.set.a, .int .u64 nd.set.b, .int .u64 nd.set.c, .int .u64 nd.set.d, .slice nd.kp nd.kn nd.kc] 45))
      have HB3 := Lib.hid ((HBEL.out.trans (o2.below (by omega) (by have := HSZ.out; omega))).alloc (by have := HBEL.out.size; have := o2.size; omega) (.cells #[.int .i64 nd.op, .int .u64 nd.set.a, .int .u64 nd.set.b, .int .u64 nd.set.c, .int .u64 nd.set.d, .slice nd.kp nd.kn nd.kc] 45))
      have HN3 := Lib.hid ((HRES.out.onl o2 (by omega)).alloc (.cells #[.int .i64 nd.op, .int .u64 nd.set.a, .int .u64 nd.set.b, .int .u64 nd.set.c, .int .u64 nd.set.d, .slice nd.kp nd.kn nd.kc] 45))
      have HM3 : Hid (BlkN (w2.alloc (.cells #[.int .i64 nd.op, .int .u64 nd.set.a, .int .u64 nd.set.b, .int .u64 nd.set.c, .int .u64 nd.set.d, .slice nd.kp nd.kn nd.kc] 45)) w2.heap.size nd) := Lib.hid (heap_alloc_new w2 _)
      have HG3 : Hid (w2.heap.size ≠ w.heap.size) := Lib.hid (by have := HBEL.out.size; have := o2.size; have := HSZ.out; omega)
      clear ht hr2 o2 hs2
      go_wp2_with fail
      generalize w2.alloc (.cells #[.int .i64 nd.op, .int .u64 nd.set.a, .int .u64 nd.set.b, .int .u64 nd.set.c, .int .u64 nd.set.d, .slice nd.kp nd.kn nd.kc] 45) = w3 at *
      generalize w2.heap.size = g3 at *
      refine (DY.out w3 _ _ HR3.out).mono ?_
      rintro e w4 ⟨rfl, m4, rfl⟩
      obtain ⟨c0, c1, c2, c3, c4, f1, f2, f3, f4⟩ := HR3.out.cells
      obtain ⟨d0, d1, d2, d3, d4, d5, k0, k1, k2, k3, k4, k5⟩ := HN3.out.cells
      obtain ⟨m0, m1, m2, m3, m5, m6, _, _, _, _, _, _⟩ := HM3.out.cells
      go_wp2_with fail
      exact bodyPost_ret (v := .tuple #[nd.val, .int .i64 0, .int .i64 0]) (by simp [results, Tryz.results13, go_sem, Nd.val, d0, d1, d2, d3, d4, d5]) rfl ⟨Below.put6 (rg_bN HB3.out _) (Nat.le_refl _) nd, .inl ⟨t, [], nd, rfl, rfl, (TreeN.kept (w := w3) (w' := put6 (w3.drewN m4) w.heap.size nd) (B' := fun k => w.heap.size ≤ k) (fun k hk _ => put6_block (w := w3.drewN m4) (by omega) nd) (fun k hk _ => by omega) _ _ HT.out)⟩⟩
    · simp only at hst
      rw [hst]
      clear hst
      go_enter Tryz.func13, Tryz.ntmps13
      go_wp2_with fail
      rw [hW1.out]
      refine PA.out.mono ?_
      rintro e w2 ⟨hs2, v, rfl, ⟨nd, rfl, ht⟩, hr2, o2⟩
      obtain ⟨p3, hp3, hc3, e5, e6, hr5, hlen5⟩ := rg_cons hs2
      rw [List.length_cons, e5] at hr2
      have DN := Lib.hid fun W H => rdone_no (w.heap.size + 1) s p3 0 0 0 W H hp3
      have FA := Lib.hid fun W H => rfail0 (w.heap.size + 1) s p3 0 0 p3 9 W H
      have HP3 : Hid (s.size - (r.length + 1) = p3 ∧ r.length + 1 ≤ s.size) := Lib.hid ⟨e5, hlen5⟩
      have hp3b : (p3 : Int) ≤ 300 := by omega
      unfold Nd.val
      have HR3 := Lib.hid (hr2.alloc (.cells #[.int .i64 nd.op, .int .u64 nd.set.a, .int .u64 nd.set.b, .int .u64 nd.set.c, .int .u64 nd.set.d, .slice nd.kp nd.kn nd.kc] 45))
      have HB3 := Lib.hid ((HBEL.out.trans (o2.below (by omega) (by have := HSZ.out; omega))).alloc (by have := HBEL.out.size; have := o2.size; omega) (.cells #[.int .i64 nd.op, .int .u64 nd.set.a, .int .u64 nd.set.b, .int .u64 nd.set.c, .int .u64 nd.set.d, .slice nd.kp nd.kn nd.kc] 45))
      have HN3 := Lib.hid ((HRES.out.onl o2 (by omega)).alloc (.cells #[.int .i64 nd.op, .int .u64 nd.set.a, .int .u64 nd.set.b, .int .u64 nd.set.c, .int .u64 nd.set.d, .slice nd.kp nd.kn nd.kc] 45))
      clear hs2 ht hr2 o2 hc3 e5 e6 hr5 hlen5
      go_wp2_with fail
      generalize w2.alloc (.cells #[.int .i64 nd.op, .int .u64 nd.set.a, .int .u64 nd.set.b, .int .u64 nd.set.c, .int .u64 nd.set.d, .slice nd.kp nd.kn nd.kc] 45) = w3 at *
      refine (DN.out w3 HR3.out).mono ?_
      rintro e w4 ⟨rfl, m4, rfl⟩
      obtain ⟨c0, c1, c2, c3, c4, f1, f2, f3, f4⟩ := HR3.out.cells
      go_wp2_with fail
      clear c0 c1 c2 c3 c4 f1 f2 f3 f4
      refine (FA.out (w3.drewN m4) HR3.out).mono ?_
      rintro e w5 ⟨rfl, hr5, o5⟩
      have HR5 := Lib.hid hr5
      have HB5 := Lib.hid ((rg_bN HB3.out m4).trans (o5.below (by omega) (by exact HB3.out.size)))
      have HN5 := Lib.hid ((HN3.out.drewN m4).onl o5 (by omega))
      clear hr5 o5 HR3 HB3 HN3
      obtain ⟨c0, c1, c2, c3, c4, f1, f2, f3, f4⟩ := HR5.out.cells
      obtain ⟨d0, d1, d2, d3, d4, d5, k0, k1, k2, k3, k4, k5⟩ := HN5.out.cells
      go_wp2_with fail
      go_region
      all_goals
        go_wp2_with fail
        exact bodyPost_ret (v := .tuple #[Nd.zero.val, .int .i64 ((p3 : Nat) : Int), .int .i64 ((9 : Nat) : Int)]) (by simp [results, Tryz.results13, go_sem, Nd.val, Nd.zero, W4.zero, d0, d1, d2, d3, d4, d5]) rfl ⟨(Below.put6 HB5.out (Nat.le_refl _) Nd.zero).drew, .inr ⟨r.length + 1, 9, rfl, .inl rfl, HP3.out.2, by rw [HP3.out.1]⟩⟩
end Go.Proofs.YtmlpkimbcjkbkaaGreatDoor
