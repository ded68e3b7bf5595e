/-
 CONTRACTS of layer 13's steps; regex.Parse as it asks.
-/
import Derived.Test.YtmbfdkiejneheaaGreatDoorLxM
import Derived.Test.YtmbfdkiejneheaaGreatDoorRgQ
import Derived.Test.YtmbfdkiejneheaaGreatDoorPaX7
namespace Go.Proofs.YtmbfdkiejneheaaGreatDoor
open Go.RowKit

set_option maxHeartbeats 8000000 in
set_option maxRecDepth 100000 in
theorem rgrp_zero (b : Nat) (s : ByteArray) (hs : s.size ≤ 10000) : GrpOk b s 20 (grpR withW notW orW 0) := by
 intro r w h hl
 have HB : Hid (b ≠ w.heap.size) := kH (by have := h.lt; omega)
 have hblt := h.lt
 rw [show grpR withW notW orW 0 r = .error (r.length + 1, 14) from rfl]
 have hlen : r.length + 1 ≤ s.size := by have := rg_len hl; simpa using this
 have hqb : ((s.size - (r.length + 1) : Nat) : Int) ≤ 100000 := by omega
 have FA := kH fun W H => rfail0 b s (s.size - (r.length + 1)) 20 0 (s.size - (r.length + 1)) 14 W H
 have HR := kH (h.alloc (.cells #[.int .i64 0, .int .u64 0, .int .u64 0, .int .u64 0, .int .u64 0, .slice none 0 0] 100))
 have HO := kH ((Onl.refl b w).alloc (.cells #[.int .i64 0, .int .u64 0, .int .u64 0, .int .u64 0, .int .u64 0, .slice none 0 0] 100))
 have HN := kH (BlkN.new w)
 obtain ⟨c0, c1, c2, c3, c4, f1, f2, f3, f4⟩ := h.cells
 clear h hl
 go_enter Tryz.func138, Tryz.ntmps138
 go_wp2_with fail
 generalize w.alloc (.cells #[.int .i64 0, .int .u64 0, .int .u64 0, .int .u64 0, .int .u64 0, .slice none 0 0] 100) = w1 at *
 refine (FA.out w1 HR.out).mono ?_
 rintro e w2 ⟨rfl, hr9, o9⟩
 have HR9 := kH hr9
 have HO9 := kH (HO.out.trans o9)
 have HN9 := kH (HN.out.onl o9 (fun e => HB.out e.symm))
 clear hr9 o9
 obtain ⟨d0, d1, d2, d3, d4, d5, k0, k1, k2, k3, k4, k5⟩ := HN9.out.cells
 go_wp2_with fail
 exact bodyPost_ret (v := Nd.zero.val) (by simp [results, Tryz.results138, go_sem, Nd.val, Nd.zero, W4.zero, d0, d1, d2, d3, d4, d5]) rfl (by
  have hR := HR9.out.put6 (fun e => HB.out e.symm) Nd.zero
  have hO := HO9.out.put6 (Nat.le_refl _) Nd.zero
  exact ⟨.inr rfl, hlen, _, rfl, ⟨_, rfl⟩, hR, hO⟩)
set_option maxHeartbeats 8000000 in
set_option maxRecDepth 100000 in
theorem rgrp_succ (b : Nat) (s : ByteArray) (hs : s.size ≤ 10000) (op d : Nat) (hop : op ≤ 19) (ih : GrpOk b s (op + 1) (grpR withW notW orW d)) : GrpOk b s op (grpR withW notW orW (d + 1)) := by
 intro r w h hl
 have HB : Hid (b ≠ w.heap.size) := kH (by have := h.lt; omega)
 have hblt := h.lt
 obtain ⟨q, hq, hqc, e3, e4, hr, hlen⟩ := rg_cons hl
 rw [e3] at h
 have HPA := kH fun W (H : Rg W b s (q + 1) (op + 1) 0 0) => rpat_any b s (op + 1) (grpR withW notW orW d) r W (by rw [e4]; exact H) hr hs ih (rg_grpR_len d)
 have HQ : Hid (s.size - (r.length + 1) = q) := kH e3
 have TE := kH fun W bad er (c : Int) H => rtake_end b s op bad er c W H
 have F0 := kH fun W p H => rfail0 b s p op 0 q 9 W H
 have F1 := kH fun W bad er he H => rfail1 b s s.size op bad er q 9 W H he
 have hopz : ((op : Int) == 20) = false := by rw [Bool.eq_false_iff]; simp; omega
 have hop2 : (op : Int) ≤ 19 := by omega
 have hqb : (q : Int) ≤ 100000 := by omega
 have HR1 := kH (((h.setP (q + 1)).setO (op + 1)).alloc (.cells #[.int .i64 0, .int .u64 0, .int .u64 0, .int .u64 0, .int .u64 0, .slice none 0 0] 100))
 have HO1 := kH ((((Onl.refl b w).setCell 1 (.int .i64 ((q + 1 : Nat) : Int))).setCell 2 (.int .i64 ((op + 1 : Nat) : Int))).alloc (.cells #[.int .i64 0, .int .u64 0, .int .u64 0, .int .u64 0, .int .u64 0, .slice none 0 0] 100))
 have HN1 : Hid (BlkN (((w.setCell ⟨b, 1, none⟩ (.int .i64 ((q + 1 : Nat) : Int))).setCell ⟨b, 2, none⟩ (.int .i64 ((op + 1 : Nat) : Int))).alloc (.cells #[.int .i64 0, .int .u64 0, .int .u64 0, .int .u64 0, .int .u64 0, .slice none 0 0] 100)) w.heap.size Nd.zero) := kH (by
  have := BlkN.new ((w.setCell ⟨b, 1, none⟩ (.int .i64 ((q + 1 : Nat) : Int))).setCell ⟨b, 2, none⟩ (.int .i64 ((op + 1 : Nat) : Int)))
  rwa [World.size_setCell, World.size_setCell] at this)
 have HSZ : Hid ((((w.setCell ⟨b, 1, none⟩ (.int .i64 ((q + 1 : Nat) : Int))).setCell ⟨b, 2, none⟩ (.int .i64 ((op + 1 : Nat) : Int))).alloc (.cells #[.int .i64 0, .int .u64 0, .int .u64 0, .int .u64 0, .int .u64 0, .slice none 0 0] 100)).heap.size = w.heap.size + 1) := kH (by simp)
 rw [show ((q + 1 : Nat) : Int) = (q : Int) + 1 from rfl, show ((op + 1 : Nat) : Int) = (op : Int) + 1 from rfl] at HR1 HO1 HN1 HSZ
 have hstep : grpR withW notW orW (d + 1) r = match patR withW notW orW (grpR withW notW orW d) r with
   | .error x => .error x
   | .ok (t, r2) => match r2 with
    | [] => .error (r.length + 1, 9)
    | c :: r3 => if c = 41 then .ok (t, r3) else .error (r.length + 1, 9) := by
  conv => lhs; unfold grpR
  cases patR withW notW orW (grpR withW notW orW d) r with
  | error x => rfl
  | ok x => obtain ⟨t, r2⟩ := x; cases r2 <;> rfl
 rw [hstep]
 have hlen2 : r.length + 1 ≤ s.size := hlen
 obtain ⟨c0, c1, c2, c3, c4, f1, f2, f3, f4⟩ := h.cells
 clear h hl hr e3 e4 hqc hlen hstep ih
 cases hx : patR withW notW orW (grpR withW notW orW d) r with
 | error y =>
  obtain ⟨bd, er⟩ := y
  rw [hx] at HPA
  clear hx
  go_enter Tryz.func138, Tryz.ntmps138
  go_wp2_with fail
  generalize ((w.setCell ⟨b, 1, none⟩ (.int .i64 ((q : Int) + 1))).setCell ⟨b, 2, none⟩ (.int .i64 ((op : Int) + 1))).alloc (.cells #[.int .i64 0, .int .u64 0, .int .u64 0, .int .u64 0, .int .u64 0, .slice none 0 0] 100) = w1 at *
  refine (HPA.out w1 HR1.out).mono ?_
  rintro e w3 ⟨her, hbd, v, rfl, ⟨nd, rfl⟩, hr3, o3⟩
  have HE := kH (And.intro her hbd)
  have HR3 := kH hr3
  have HO3 := kH (HO1.out.trans o3)
  have HN3 := kH (HN1.out.onl o3 (fun e => HB.out e.symm))
  clear her hbd hr3 o3
  unfold Nd.val
  have HSZ3 : Hid (b ≠ w3.heap.size ∧ w.heap.size ≠ w3.heap.size) := kH ⟨by have := HR3.out.lt; omega, by have := HN3.out.lt; omega⟩
  have hb3 := HR3.out.lt
  have HR4 := kH ((HR3.out.setO op).alloc (.cells #[.int .i64 nd.op, .int .u64 nd.set.a, .int .u64 nd.set.b, .int .u64 nd.set.c, .int .u64 nd.set.d, .slice nd.kp nd.kn nd.kc] 100))
  have HO4 := kH ((HO3.out.setCell 2 (.int .i64 (op : Int))).alloc (.cells #[.int .i64 nd.op, .int .u64 nd.set.a, .int .u64 nd.set.b, .int .u64 nd.set.c, .int .u64 nd.set.d, .slice nd.kp nd.kn nd.kc] 100))
  have HN4 := kH ((HN3.out.setNew (p := ⟨b, 2, none⟩) HB.out (.int .i64 (op : Int))).alloc (.cells #[.int .i64 nd.op, .int .u64 nd.set.a, .int .u64 nd.set.b, .int .u64 nd.set.c, .int .u64 nd.set.d, .slice nd.kp nd.kn nd.kc] 100))
  have HM4 : Hid (BlkN ((w3.setCell ⟨b, 2, none⟩ (.int .i64 (op : Int))).alloc (.cells #[.int .i64 nd.op, .int .u64 nd.set.a, .int .u64 nd.set.b, .int .u64 nd.set.c, .int .u64 nd.set.d, .slice nd.kp nd.kn nd.kc] 100)) w3.heap.size nd) := kH (by
   have h := heap_alloc_new (w3.setCell ⟨b, 2, none⟩ (.int .i64 (op : Int))) (.cells #[.int .i64 nd.op, .int .u64 nd.set.a, .int .u64 nd.set.b, .int .u64 nd.set.c, .int .u64 nd.set.d, .slice nd.kp nd.kn nd.kc] 100)
   rw [World.size_setCell] at h
   exact h)
  obtain ⟨c0, c1, c2, c3, c4, f1, f2, f3, f4⟩ := HR3.out.cells
  go_wp2_with fail
  generalize hw4 : (w3.setCell ⟨b, 2, none⟩ (.int .i64 (op : Int))).alloc (.cells #[.int .i64 nd.op, .int .u64 nd.set.a, .int .u64 nd.set.b, .int .u64 nd.set.c, .int .u64 nd.set.d, .slice nd.kp nd.kn nd.kc] 100) = w4 at *
  clear hw4 c0 c1 c2 c3 c4 f1 f2 f3 f4
  generalize w3.heap.size = g4 at *
  have HG4 : Hid (g4 ≠ b) := kH (fun e => HSZ3.out.1 e.symm)
  refine (TE.out w4 _ _ 41 HR4.out).mono ?_
  rintro e w7 ⟨rfl, m7, rfl⟩
  have HR8 := kH (HR4.out.drewN m7)
  have HO8 := kH (HO4.out.drewN (n := m7))
  have HN8 := kH (HN4.out.drewN m7)
  have HM8 := kH (HM4.out.drewN m7)
  clear HR4 HO4 HN4 HM4
  go_wp2_with fail
  generalize w4.drewN m7 = w8 at *
  refine (F1.out w8 _ _ (by rcases HE.out.1 with h | h <;> omega) HR8.out).mono ?_
  rintro e w9 ⟨rfl, hr9, o9⟩
  have HR9 := kH hr9
  have HO9 := kH (HO8.out.trans o9)
  have HN9 := kH (HN8.out.onl o9 (fun e => HB.out e.symm))
  have HM9 := kH (HM8.out.onl o9 HG4.out)
  clear hr9 o9
  obtain ⟨d0, d1, d2, d3, d4, d5, k0, k1, k2, k3, k4, k5⟩ := HN9.out.cells
  obtain ⟨m0, m1, m2, m3, m4, m5, _, _, _, _, _, _⟩ := HM9.out.cells
  go_wp2_with fail
  exact bodyPost_ret (v := nd.val) (by simp [results, Tryz.results138, go_sem, Nd.val, d0, d1, d2, d3, d4, d5]) rfl (by
   have hR := HR9.out.put6 (fun e => HB.out e.symm) nd
   have hO := HO9.out.put6 (Nat.le_refl _) nd
   exact ⟨HE.out.1, HE.out.2, _, rfl, ⟨_, rfl⟩, hR, hO⟩)
 | ok y =>
  obtain ⟨t, r2⟩ := y
  rw [hx] at HPA
  clear hx
  rcases r2 with _ | ⟨x, r3⟩
  ·
   simp only
   go_enter Tryz.func138, Tryz.ntmps138
   go_wp2_with fail
   generalize ((w.setCell ⟨b, 1, none⟩ (.int .i64 ((q : Int) + 1))).setCell ⟨b, 2, none⟩ (.int .i64 ((op : Int) + 1))).alloc (.cells #[.int .i64 0, .int .u64 0, .int .u64 0, .int .u64 0, .int .u64 0, .slice none 0 0] 100) = w1 at *
   refine (HPA.out w1 HR1.out).mono ?_
   rintro e w3 ⟨hs3, v, rfl, ⟨nd, rfl, ht⟩, hr3, o3⟩
   change Rg w3 b s s.size (op + 1) 0 0 at hr3
   have HR3 := kH hr3
   have HO3 := kH (HO1.out.trans o3)
   have HN3 := kH (HN1.out.onl o3 (fun e => HB.out e.symm))
   clear hs3 ht hr3 o3
   unfold Nd.val
   have HSZ3 : Hid (b ≠ w3.heap.size ∧ w.heap.size ≠ w3.heap.size) := kH ⟨by have := HR3.out.lt; omega, by have := HN3.out.lt; omega⟩
   have hb3 := HR3.out.lt
   have HR4 := kH ((HR3.out.setO op).alloc (.cells #[.int .i64 nd.op, .int .u64 nd.set.a, .int .u64 nd.set.b, .int .u64 nd.set.c, .int .u64 nd.set.d, .slice nd.kp nd.kn nd.kc] 100))
   have HO4 := kH ((HO3.out.setCell 2 (.int .i64 (op : Int))).alloc (.cells #[.int .i64 nd.op, .int .u64 nd.set.a, .int .u64 nd.set.b, .int .u64 nd.set.c, .int .u64 nd.set.d, .slice nd.kp nd.kn nd.kc] 100))
   have HN4 := kH ((HN3.out.setNew (p := ⟨b, 2, none⟩) HB.out (.int .i64 (op : Int))).alloc (.cells #[.int .i64 nd.op, .int .u64 nd.set.a, .int .u64 nd.set.b, .int .u64 nd.set.c, .int .u64 nd.set.d, .slice nd.kp nd.kn nd.kc] 100))
   have HM4 : Hid (BlkN ((w3.setCell ⟨b, 2, none⟩ (.int .i64 (op : Int))).alloc (.cells #[.int .i64 nd.op, .int .u64 nd.set.a, .int .u64 nd.set.b, .int .u64 nd.set.c, .int .u64 nd.set.d, .slice nd.kp nd.kn nd.kc] 100)) w3.heap.size nd) := kH (by
    have h := heap_alloc_new (w3.setCell ⟨b, 2, none⟩ (.int .i64 (op : Int))) (.cells #[.int .i64 nd.op, .int .u64 nd.set.a, .int .u64 nd.set.b, .int .u64 nd.set.c, .int .u64 nd.set.d, .slice nd.kp nd.kn nd.kc] 100)
    rw [World.size_setCell] at h
    exact h)
   obtain ⟨c0, c1, c2, c3, c4, f1, f2, f3, f4⟩ := HR3.out.cells
   go_wp2_with fail
   generalize hw4 : (w3.setCell ⟨b, 2, none⟩ (.int .i64 (op : Int))).alloc (.cells #[.int .i64 nd.op, .int .u64 nd.set.a, .int .u64 nd.set.b, .int .u64 nd.set.c, .int .u64 nd.set.d, .slice nd.kp nd.kn nd.kc] 100) = w4 at *
   clear hw4 c0 c1 c2 c3 c4 f1 f2 f3 f4
   generalize w3.heap.size = g4 at *
   have HG4 : Hid (g4 ≠ b) := kH (fun e => HSZ3.out.1 e.symm)
   refine (TE.out w4 _ _ 41 HR4.out).mono ?_
   rintro e w7 ⟨rfl, m7, rfl⟩
   have HR8 := kH (HR4.out.drewN m7)
   have HO8 := kH (HO4.out.drewN (n := m7))
   have HN8 := kH (HN4.out.drewN m7)
   have HM8 := kH (HM4.out.drewN m7)
   clear HR4 HO4 HN4 HM4
   go_wp2_with fail
   generalize w4.drewN m7 = w8 at *
   refine (F0.out w8 _ HR8.out).mono ?_
   rintro e w9 ⟨rfl, hr9, o9⟩
   have HR9 := kH hr9
   have HO9 := kH (HO8.out.trans o9)
   have HN9 := kH (HN8.out.onl o9 (fun e => HB.out e.symm))
   have HM9 := kH (HM8.out.onl o9 HG4.out)
   clear hr9 o9
   obtain ⟨d0, d1, d2, d3, d4, d5, k0, k1, k2, k3, k4, k5⟩ := HN9.out.cells
   obtain ⟨m0, m1, m2, m3, m4, m5, _, _, _, _, _, _⟩ := HM9.out.cells
   go_wp2_with fail
   exact bodyPost_ret (v := nd.val) (by simp [results, Tryz.results138, go_sem, Nd.val, d0, d1, d2, d3, d4, d5]) rfl (by
    have hR := HR9.out.put6 (fun e => HB.out e.symm) nd
    have hO := HO9.out.put6 (Nat.le_refl _) nd
    exact ⟨.inl rfl, hlen2, _, rfl, ⟨_, rfl⟩, by rw [HQ.out]; exact hR, hO⟩)
  ·
   simp only
   by_cases hx41 : x = 41
   ·
    rw [if_pos hx41]
    go_enter Tryz.func138, Tryz.ntmps138
    go_wp2_with fail
    generalize ((w.setCell ⟨b, 1, none⟩ (.int .i64 ((q : Int) + 1))).setCell ⟨b, 2, none⟩ (.int .i64 ((op : Int) + 1))).alloc (.cells #[.int .i64 0, .int .u64 0, .int .u64 0, .int .u64 0, .int .u64 0, .slice none 0 0] 100) = w1 at *
    refine (HPA.out w1 HR1.out).mono ?_
    rintro e w3 ⟨hs3, v, rfl, ⟨nd, rfl, ht⟩, hr3, o3⟩
    obtain ⟨p3, hp3, hc3, e5, e6, hr5, hlen5⟩ := rg_cons hs3
    rw [List.length_cons, e5] at hr3
    have TK := kH fun W H => rtake_yes b s p3 op 0 0 41 W H hp3 (by rw [hc3]; exact hx41) (by omega)
    rw [show (((41 : UInt8).toNat : Nat) : Int) = 41 from rfl] at TK
    have HS5 := kH (And.intro hr5 e6)
    have HT := kH ht
    have HR3 := kH hr3
    have HO3 := kH (HO1.out.trans o3)
    have HN3 := kH (HN1.out.onl o3 (fun e => HB.out e.symm))
    clear hs3 ht hr3 o3 hc3 e5 e6 hr5 hlen5 hx41
    unfold Nd.val
    have HSZ3 : Hid (b ≠ w3.heap.size ∧ w.heap.size ≠ w3.heap.size) := kH ⟨by have := HR3.out.lt; omega, by have := HN3.out.lt; omega⟩
    have hb3 := HR3.out.lt
    have HR4 := kH ((HR3.out.setO op).alloc (.cells #[.int .i64 nd.op, .int .u64 nd.set.a, .int .u64 nd.set.b, .int .u64 nd.set.c, .int .u64 nd.set.d, .slice nd.kp nd.kn nd.kc] 100))
    have HO4 := kH ((HO3.out.setCell 2 (.int .i64 (op : Int))).alloc (.cells #[.int .i64 nd.op, .int .u64 nd.set.a, .int .u64 nd.set.b, .int .u64 nd.set.c, .int .u64 nd.set.d, .slice nd.kp nd.kn nd.kc] 100))
    have HN4 := kH ((HN3.out.setNew (p := ⟨b, 2, none⟩) HB.out (.int .i64 (op : Int))).alloc (.cells #[.int .i64 nd.op, .int .u64 nd.set.a, .int .u64 nd.set.b, .int .u64 nd.set.c, .int .u64 nd.set.d, .slice nd.kp nd.kn nd.kc] 100))
    have HM4 : Hid (BlkN ((w3.setCell ⟨b, 2, none⟩ (.int .i64 (op : Int))).alloc (.cells #[.int .i64 nd.op, .int .u64 nd.set.a, .int .u64 nd.set.b, .int .u64 nd.set.c, .int .u64 nd.set.d, .slice nd.kp nd.kn nd.kc] 100)) w3.heap.size nd) := kH (by
     have h := heap_alloc_new (w3.setCell ⟨b, 2, none⟩ (.int .i64 (op : Int))) (.cells #[.int .i64 nd.op, .int .u64 nd.set.a, .int .u64 nd.set.b, .int .u64 nd.set.c, .int .u64 nd.set.d, .slice nd.kp nd.kn nd.kc] 100)
     rw [World.size_setCell] at h
     exact h)
    obtain ⟨c0, c1, c2, c3, c4, f1, f2, f3, f4⟩ := HR3.out.cells
    have HT4 : Hid (TreeN ((w3.setCell ⟨b, 2, none⟩ (.int .i64 (op : Int))).alloc (.cells #[.int .i64 nd.op, .int .u64 nd.set.a, .int .u64 nd.set.b, .int .u64 nd.set.c, .int .u64 nd.set.d, .slice nd.kp nd.kn nd.kc] 100)) (fun k => w.heap.size + 1 ≤ k) t nd) := kH (HT.out.kept (fun k hk hl => by
     have h1 := HSZ.out
     exact (Below.heap_alloc _ _ k (by rw [World.size_setCell]; exact hl)).trans (Below.heap_setCell _ _ _ k (by show k ≠ b; omega))) (fun k hk _ => by have h1 := HSZ.out; omega))
    clear HT
    go_wp2_with fail
    generalize hw4 : (w3.setCell ⟨b, 2, none⟩ (.int .i64 (op : Int))).alloc (.cells #[.int .i64 nd.op, .int .u64 nd.set.a, .int .u64 nd.set.b, .int .u64 nd.set.c, .int .u64 nd.set.d, .slice nd.kp nd.kn nd.kc] 100) = w4 at *
    clear hw4 c0 c1 c2 c3 c4 f1 f2 f3 f4
    generalize w3.heap.size = g4 at *
    have HG4 : Hid (g4 ≠ b) := kH (fun e => HSZ3.out.1 e.symm)
    have HT4 : Hid (TreeN w4 (fun k => w.heap.size + 1 ≤ k) t nd) := HT4
    refine (TK.out w4 HR4.out).mono ?_
    rintro e w9 ⟨rfl, hr9, o9⟩
    have HT9 := kH (HT4.out.kept (w' := w9) (B' := fun k => w.heap.size + 1 ≤ k) (fun k hk hl => o9.block k hl (by omega)) (fun k hk _ => hk))
    have HO8 := HO4
    have HN8 := HN4
    have HM8 := HM4
    have HR9 := kH hr9
    have HO9 := kH (HO8.out.trans o9)
    have HN9 := kH (HN8.out.onl o9 (fun e => HB.out e.symm))
    have HM9 := kH (HM8.out.onl o9 HG4.out)
    clear hr9 o9
    obtain ⟨d0, d1, d2, d3, d4, d5, k0, k1, k2, k3, k4, k5⟩ := HN9.out.cells
    obtain ⟨m0, m1, m2, m3, m4, m5, _, _, _, _, _, _⟩ := HM9.out.cells
    go_wp2_with fail
    exact bodyPost_ret (v := nd.val) (by simp [results, Tryz.results138, go_sem, Nd.val, d0, d1, d2, d3, d4, d5]) rfl (by
     have hR := HR9.out.put6 (fun e => HB.out e.symm) nd
     have hO := HO9.out.put6 (Nat.le_refl _) nd
     exact ⟨HS5.out.1, _, rfl, VN.stored HT9.out (Nat.lt_succ_self _), by rw [HS5.out.2]; exact hR, hO⟩)
   ·
    rw [if_neg hx41]
    go_enter Tryz.func138, Tryz.ntmps138
    go_wp2_with fail
    generalize ((w.setCell ⟨b, 1, none⟩ (.int .i64 ((q : Int) + 1))).setCell ⟨b, 2, none⟩ (.int .i64 ((op : Int) + 1))).alloc (.cells #[.int .i64 0, .int .u64 0, .int .u64 0, .int .u64 0, .int .u64 0, .slice none 0 0] 100) = w1 at *
    refine (HPA.out w1 HR1.out).mono ?_
    rintro e w3 ⟨hs3, v, rfl, ⟨nd, rfl, ht⟩, hr3, o3⟩
    obtain ⟨p3, hp3, hc3, e5, e6, hr5, hlen5⟩ := rg_cons hs3
    rw [List.length_cons, e5] at hr3
    have TK := kH fun W H => rtake_no b s p3 op 0 0 41 W H hp3 (by rw [hc3]; exact hx41)
    rw [show (((41 : UInt8).toNat : Nat) : Int) = 41 from rfl] at TK
    have HR3 := kH hr3
    have HO3 := kH (HO1.out.trans o3)
    have HN3 := kH (HN1.out.onl o3 (fun e => HB.out e.symm))
    clear hs3 ht hr3 o3 hc3 e5 e6 hr5 hlen5 hx41
    unfold Nd.val
    have HSZ3 : Hid (b ≠ w3.heap.size ∧ w.heap.size ≠ w3.heap.size) := kH ⟨by have := HR3.out.lt; omega, by have := HN3.out.lt; omega⟩
    have hb3 := HR3.out.lt
    have HR4 := kH ((HR3.out.setO op).alloc (.cells #[.int .i64 nd.op, .int .u64 nd.set.a, .int .u64 nd.set.b, .int .u64 nd.set.c, .int .u64 nd.set.d, .slice nd.kp nd.kn nd.kc] 100))
    have HO4 := kH ((HO3.out.setCell 2 (.int .i64 (op : Int))).alloc (.cells #[.int .i64 nd.op, .int .u64 nd.set.a, .int .u64 nd.set.b, .int .u64 nd.set.c, .int .u64 nd.set.d, .slice nd.kp nd.kn nd.kc] 100))
    have HN4 := kH ((HN3.out.setNew (p := ⟨b, 2, none⟩) HB.out (.int .i64 (op : Int))).alloc (.cells #[.int .i64 nd.op, .int .u64 nd.set.a, .int .u64 nd.set.b, .int .u64 nd.set.c, .int .u64 nd.set.d, .slice nd.kp nd.kn nd.kc] 100))
    have HM4 : Hid (BlkN ((w3.setCell ⟨b, 2, none⟩ (.int .i64 (op : Int))).alloc (.cells #[.int .i64 nd.op, .int .u64 nd.set.a, .int .u64 nd.set.b, .int .u64 nd.set.c, .int .u64 nd.set.d, .slice nd.kp nd.kn nd.kc] 100)) w3.heap.size nd) := kH (by
     have h := heap_alloc_new (w3.setCell ⟨b, 2, none⟩ (.int .i64 (op : Int))) (.cells #[.int .i64 nd.op, .int .u64 nd.set.a, .int .u64 nd.set.b, .int .u64 nd.set.c, .int .u64 nd.set.d, .slice nd.kp nd.kn nd.kc] 100)
     rw [World.size_setCell] at h
     exact h)
    obtain ⟨c0, c1, c2, c3, c4, f1, f2, f3, f4⟩ := HR3.out.cells
    go_wp2_with fail
    generalize hw4 : (w3.setCell ⟨b, 2, none⟩ (.int .i64 (op : Int))).alloc (.cells #[.int .i64 nd.op, .int .u64 nd.set.a, .int .u64 nd.set.b, .int .u64 nd.set.c, .int .u64 nd.set.d, .slice nd.kp nd.kn nd.kc] 100) = w4 at *
    clear hw4 c0 c1 c2 c3 c4 f1 f2 f3 f4
    generalize w3.heap.size = g4 at *
    have HG4 : Hid (g4 ≠ b) := kH (fun e => HSZ3.out.1 e.symm)
    refine (TK.out w4 HR4.out).mono ?_
    rintro e w7 ⟨rfl, m7, rfl⟩
    have HR8 := kH (HR4.out.drewN m7)
    have HO8 := kH (HO4.out.drewN (n := m7))
    have HN8 := kH (HN4.out.drewN m7)
    have HM8 := kH (HM4.out.drewN m7)
    clear HR4 HO4 HN4 HM4
    go_wp2_with fail
    generalize w4.drewN m7 = w8 at *
    refine (F0.out w8 _ HR8.out).mono ?_
    rintro e w9 ⟨rfl, hr9, o9⟩
    have HR9 := kH hr9
    have HO9 := kH (HO8.out.trans o9)
    have HN9 := kH (HN8.out.onl o9 (fun e => HB.out e.symm))
    have HM9 := kH (HM8.out.onl o9 HG4.out)
    clear hr9 o9
    obtain ⟨d0, d1, d2, d3, d4, d5, k0, k1, k2, k3, k4, k5⟩ := HN9.out.cells
    obtain ⟨m0, m1, m2, m3, m4, m5, _, _, _, _, _, _⟩ := HM9.out.cells
    go_wp2_with fail
    exact bodyPost_ret (v := nd.val) (by simp [results, Tryz.results138, go_sem, Nd.val, d0, d1, d2, d3, d4, d5]) rfl (by
     have hR := HR9.out.put6 (fun e => HB.out e.symm) nd
     have hO := HO9.out.put6 (Nat.le_refl _) nd
     exact ⟨.inl rfl, hlen2, _, rfl, ⟨_, rfl⟩, by rw [HQ.out]; exact hR, hO⟩)
theorem rgrp_ok (b : Nat) (s : ByteArray) (hs : s.size ≤ 10000) : ∀ (d op : Nat), op + d = 20 → GrpOk b s op (grpR withW notW orW d)
 | 0, op, h => by
  obtain rfl : op = 20 := by omega
  exact rgrp_zero b s hs
 | d + 1, op, h => rgrp_succ b s hs op d (by omega) (rgrp_ok b s hs d (op + 1) (by omega))
end Go.Proofs.YtmbfdkiejneheaaGreatDoor

namespace Go.Proofs.YtmbfdkiejneheaaGreatDoor
open Go.RowKit

/-- What Parse answers. -/
def ParP (s : ByteArray) (w : World) (e : Ending) (w' : World) : Prop :=
 Below w.heap.size w w' ∧ ((∃ t r nd, topR withW notW orW s.data.toList = .ok (t, r) ∧ e = .returned (.tuple #[Nd.val nd, .int .i64 0, .int .i64 0]) ∧ TreeN w' (fun k => w.heap.size ≤ k) t nd) ∨
  (∃ n k, topR withW notW orW s.data.toList = .error (n, k) ∧ (k = 9 ∨ k = 14) ∧ n ≤ s.size ∧ e = .returned (.tuple #[Nd.zero.val, .int .i64 ((s.size - n : Nat) : Int), .int .i64 (k : Int)])))
theorem Below.put6 {B g : Nat} {a w : World} (h : Below B a w) (hg : B ≤ g) (n : Nd) : Below B a (put6 w g n) :=
 (((((h.setCell (p := ⟨g, 0, none⟩) hg _).setCell (p := ⟨g, 1, none⟩) hg _).setCell (p := ⟨g, 2, none⟩) hg _).setCell (p := ⟨g, 3, none⟩) hg _).setCell (p := ⟨g, 4, none⟩) hg _).setCell (p := ⟨g, 5, none⟩) hg _
set_option maxHeartbeats 8000000 in
set_option maxRecDepth 100000 in
theorem rparse_any (s : ByteArray) (w : World) (hs : s.size ≤ 300) :
  Calls Tryz.prog 128 #[.string s] w (ParP s w) := by
 obtain ⟨w1, hw1⟩ : ∃ w1, (w.alloc (.cells #[.int .i64 0, .int .u64 0, .int .u64 0, .int .u64 0, .int .u64 0, .slice none 0 0] 100)).alloc (.cells #[.string s, .int .i64 0, .int .i64 0, .int .i64 0, .int .i64 0] 106) = w1 := ⟨_, rfl⟩
 have hsz1 : w1.heap.size = w.heap.size + 2 := by rw [← hw1]; simp
 have hres : BlkN w1 w.heap.size Nd.zero := by rw [← hw1]; exact (BlkN.new w).alloc _
 have hrg : Rg w1 (w.heap.size + 1) s 0 0 0 0 := by
  rw [← hw1]
  have h := heap_alloc_new (w.alloc (.cells #[.int .i64 0, .int .u64 0, .int .u64 0, .int .u64 0, .int .u64 0, .slice none 0 0] 100)) (.cells #[.string s, .int .i64 0, .int .i64 0, .int .i64 0, .int .i64 0] 106)
  rw [show (w.alloc (.cells #[.int .i64 0, .int .u64 0, .int .u64 0, .int .u64 0, .int .u64 0, .slice none 0 0] 100)).heap.size = w.heap.size + 1 from by simp] at h
  exact h
 have hbel : Below w.heap.size w w1 := by rw [← hw1]; exact ((Below.refl _ _).alloc (Nat.le_refl _) _).alloc (by simp) _
 have hll : s.data.toList.length = s.size := by simp
 have PA := rpat_any (w.heap.size + 1) s 0 (grpR withW notW orW 20) s.data.toList w1 (by rw [hll, Nat.sub_self]; exact hrg) (List.suffix_refl _) (by omega) (rgrp_ok _ s (by omega) 20 0 rfl) (rg_grpR_len 20)
 have hst : topR withW notW orW s.data.toList = match patR withW notW orW (grpR withW notW orW 20) s.data.toList with
   | .error x => .error x
   | .ok (t, r) => match r with
    | [] => .ok (t, [])
    | _ :: r2 => .error (r2.length + 1, 9) := by
  unfold topR
  cases patR withW notW orW (grpR withW notW orW 20) s.data.toList with
  | error x => rfl
  | ok x => obtain ⟨t, r2⟩ := x; cases r2 <;> rfl
 have hW1 := kH hw1
 have HBEL := kH hbel
 have HRES := kH hres
 have HSZ := kH hsz1
 have DY := kH fun W bad er H => rdone_yes (w.heap.size + 1) s 0 bad er W H
 have hsi : ¬ 300 < (s.size : Int) := by omega
 clear hw1 hsz1 hres hrg hbel hll
 unfold ParP
 cases hx : patR withW notW orW (grpR withW notW orW 20) s.data.toList with
 | error y =>
  obtain ⟨bd, er⟩ := y
  rw [hx] at hst PA
  simp only at hst
  rw [hst]
  have PA := kH PA
  clear hx hst
  go_enter Tryz.func128, Tryz.ntmps128
  go_wp2_with fail
  rw [hW1.out]
  refine PA.out.mono ?_
  rintro e w2 ⟨her, hbd, v, rfl, ⟨nd, rfl⟩, hr2, o2⟩
  have HE := kH (And.intro her hbd)
  unfold Nd.val
  have HR3 := kH (hr2.alloc (.cells #[.int .i64 nd.op, .int .u64 nd.set.a, .int .u64 nd.set.b, .int .u64 nd.set.c, .int .u64 nd.set.d, .slice nd.kp nd.kn nd.kc] 100))
  have HB3 := kH ((HBEL.out.trans (o2.below (by omega) (by have := HSZ.out; omega))).alloc (by have := HBEL.out.size; have := o2.size; omega) (.cells #[.int .i64 nd.op, .int .u64 nd.set.a, .int .u64 nd.set.b, .int .u64 nd.set.c, .int .u64 nd.set.d, .slice nd.kp nd.kn nd.kc] 100))
  have HN3 := kH ((HRES.out.onl o2 (by omega)).alloc (.cells #[.int .i64 nd.op, .int .u64 nd.set.a, .int .u64 nd.set.b, .int .u64 nd.set.c, .int .u64 nd.set.d, .slice nd.kp nd.kn nd.kc] 100))
  clear her hbd hr2 o2
  go_wp2_with fail
  generalize w2.alloc (.cells #[.int .i64 nd.op, .int .u64 nd.set.a, .int .u64 nd.set.b, .int .u64 nd.set.c, .int .u64 nd.set.d, .slice nd.kp nd.kn nd.kc] 100) = w3 at *
  refine (DY.out w3 _ _ HR3.out).mono ?_
  rintro e w4 ⟨rfl, m4, rfl⟩
  obtain ⟨c0, c1, c2, c3, c4, f1, f2, f3, f4⟩ := HR3.out.cells
  have hek : ((er : Int) != 0) = true := by rw [bne_iff_ne]; rcases HE.out.1 with h | h <;> omega
  obtain ⟨d0, d1, d2, d3, d4, d5, k0, k1, k2, k3, k4, k5⟩ := HN3.out.cells
  go_wp2_with fail
  go_region
  all_goals
   go_wp2_with fail
   exact bodyPost_ret (v := .tuple #[Nd.zero.val, .int .i64 ((s.size - bd : Nat) : Int), .int .i64 (er : Int)]) (by simp [results, Tryz.results128, go_sem, Nd.val, Nd.zero, W4.zero, d0, d1, d2, d3, d4, d5]) rfl ⟨(Below.put6 (rg_bN HB3.out _) (Nat.le_refl _) Nd.zero), .inr ⟨bd, er, rfl, HE.out.1, HE.out.2, rfl⟩⟩
 | ok y =>
  obtain ⟨t, r⟩ := y
  rw [hx] at hst PA
  simp only at hst
  have PA := kH PA
  clear hx
  rcases r with _ | ⟨x, r⟩
  ·
   simp only at hst
   rw [hst]
   clear hst
   go_enter Tryz.func128, Tryz.ntmps128
   go_wp2_with fail
   rw [hW1.out]
   refine PA.out.mono ?_
   rintro e w2 ⟨hs2, v, rfl, ⟨nd, rfl, ht⟩, hr2, o2⟩
   change Rg w2 (w.heap.size + 1) s s.size 0 0 0 at hr2
   have HT := kH (TreeN.kept (w' := w2.alloc (.cells #[.int .i64 nd.op, .int .u64 nd.set.a, .int .u64 nd.set.b, .int .u64 nd.set.c, .int .u64 nd.set.d, .slice nd.kp nd.kn nd.kc] 100)) (B' := fun k => w.heap.size + 1 ≤ k) (fun k _ hk => Below.heap_alloc _ _ k hk) (fun k hk _ => by have := HSZ.out; omega) _ _ ht)
   unfold Nd.val
   have HR3 := kH (hr2.alloc (.cells #[.int .i64 nd.op, .int .u64 nd.set.a, .int .u64 nd.set.b, .int .u64 nd.set.c, .int .u64 nd.set.d, .slice nd.kp nd.kn nd.kc] 100))
   have HB3 := kH ((HBEL.out.trans (o2.below (by omega) (by have := HSZ.out; omega))).alloc (by have := HBEL.out.size; have := o2.size; omega) (.cells #[.int .i64 nd.op, .int .u64 nd.set.a, .int .u64 nd.set.b, .int .u64 nd.set.c, .int .u64 nd.set.d, .slice nd.kp nd.kn nd.kc] 100))
   have HN3 := kH ((HRES.out.onl o2 (by omega)).alloc (.cells #[.int .i64 nd.op, .int .u64 nd.set.a, .int .u64 nd.set.b, .int .u64 nd.set.c, .int .u64 nd.set.d, .slice nd.kp nd.kn nd.kc] 100))
   have HM3 : Hid (BlkN (w2.alloc (.cells #[.int .i64 nd.op, .int .u64 nd.set.a, .int .u64 nd.set.b, .int .u64 nd.set.c, .int .u64 nd.set.d, .slice nd.kp nd.kn nd.kc] 100)) w2.heap.size nd) := kH (heap_alloc_new w2 _)
   have HG3 : Hid (w2.heap.size ≠ w.heap.size) := kH (by have := HBEL.out.size; have := o2.size; have := HSZ.out; omega)
   clear ht hr2 o2 hs2
   go_wp2_with fail
   generalize w2.alloc (.cells #[.int .i64 nd.op, .int .u64 nd.set.a, .int .u64 nd.set.b, .int .u64 nd.set.c, .int .u64 nd.set.d, .slice nd.kp nd.kn nd.kc] 100) = w3 at *
   generalize w2.heap.size = g3 at *
   refine (DY.out w3 _ _ HR3.out).mono ?_
   rintro e w4 ⟨rfl, m4, rfl⟩
   obtain ⟨c0, c1, c2, c3, c4, f1, f2, f3, f4⟩ := HR3.out.cells
   obtain ⟨d0, d1, d2, d3, d4, d5, k0, k1, k2, k3, k4, k5⟩ := HN3.out.cells
   obtain ⟨m0, m1, m2, m3, m5, m6, _, _, _, _, _, _⟩ := HM3.out.cells
   go_wp2_with fail
   exact bodyPost_ret (v := .tuple #[nd.val, .int .i64 0, .int .i64 0]) (by simp [results, Tryz.results128, go_sem, Nd.val, d0, d1, d2, d3, d4, d5]) rfl ⟨Below.put6 (rg_bN HB3.out _) (Nat.le_refl _) nd, .inl ⟨t, [], nd, rfl, rfl, (TreeN.kept (w := w3) (w' := put6 (w3.drewN m4) w.heap.size nd) (B' := fun k => w.heap.size ≤ k) (fun k hk _ => put6_block (w := w3.drewN m4) (by omega) nd) (fun k hk _ => by omega) _ _ HT.out)⟩⟩
  ·
   simp only at hst
   rw [hst]
   clear hst
   go_enter Tryz.func128, Tryz.ntmps128
   go_wp2_with fail
   rw [hW1.out]
   refine PA.out.mono ?_
   rintro e w2 ⟨hs2, v, rfl, ⟨nd, rfl, ht⟩, hr2, o2⟩
   obtain ⟨p3, hp3, hc3, e5, e6, hr5, hlen5⟩ := rg_cons hs2
   rw [List.length_cons, e5] at hr2
   have DN := kH fun W H => rdone_no (w.heap.size + 1) s p3 0 0 0 W H hp3
   have FA := kH fun W H => rfail0 (w.heap.size + 1) s p3 0 0 p3 9 W H
   have HP3 : Hid (s.size - (r.length + 1) = p3 ∧ r.length + 1 ≤ s.size) := kH ⟨e5, hlen5⟩
   have hp3b : (p3 : Int) ≤ 300 := by omega
   unfold Nd.val
   have HR3 := kH (hr2.alloc (.cells #[.int .i64 nd.op, .int .u64 nd.set.a, .int .u64 nd.set.b, .int .u64 nd.set.c, .int .u64 nd.set.d, .slice nd.kp nd.kn nd.kc] 100))
   have HB3 := kH ((HBEL.out.trans (o2.below (by omega) (by have := HSZ.out; omega))).alloc (by have := HBEL.out.size; have := o2.size; omega) (.cells #[.int .i64 nd.op, .int .u64 nd.set.a, .int .u64 nd.set.b, .int .u64 nd.set.c, .int .u64 nd.set.d, .slice nd.kp nd.kn nd.kc] 100))
   have HN3 := kH ((HRES.out.onl o2 (by omega)).alloc (.cells #[.int .i64 nd.op, .int .u64 nd.set.a, .int .u64 nd.set.b, .int .u64 nd.set.c, .int .u64 nd.set.d, .slice nd.kp nd.kn nd.kc] 100))
   clear hs2 ht hr2 o2 hc3 e5 e6 hr5 hlen5
   go_wp2_with fail
   generalize w2.alloc (.cells #[.int .i64 nd.op, .int .u64 nd.set.a, .int .u64 nd.set.b, .int .u64 nd.set.c, .int .u64 nd.set.d, .slice nd.kp nd.kn nd.kc] 100) = w3 at *
   refine (DN.out w3 HR3.out).mono ?_
   rintro e w4 ⟨rfl, m4, rfl⟩
   obtain ⟨c0, c1, c2, c3, c4, f1, f2, f3, f4⟩ := HR3.out.cells
   go_wp2_with fail
   clear c0 c1 c2 c3 c4 f1 f2 f3 f4
   refine (FA.out (w3.drewN m4) HR3.out).mono ?_
   rintro e w5 ⟨rfl, hr5, o5⟩
   have HR5 := kH hr5
   have HB5 := kH ((rg_bN HB3.out m4).trans (o5.below (by omega) (by exact HB3.out.size)))
   have HN5 := kH ((HN3.out.drewN m4).onl o5 (by omega))
   clear hr5 o5 HR3 HB3 HN3
   obtain ⟨c0, c1, c2, c3, c4, f1, f2, f3, f4⟩ := HR5.out.cells
   obtain ⟨d0, d1, d2, d3, d4, d5, k0, k1, k2, k3, k4, k5⟩ := HN5.out.cells
   go_wp2_with fail
   go_region
   all_goals
    go_wp2_with fail
    exact bodyPost_ret (v := .tuple #[Nd.zero.val, .int .i64 ((p3 : Nat) : Int), .int .i64 ((9 : Nat) : Int)]) (by simp [results, Tryz.results128, go_sem, Nd.val, Nd.zero, W4.zero, d0, d1, d2, d3, d4, d5]) rfl ⟨(Below.put6 HB5.out (Nat.le_refl _) Nd.zero).drew, .inr ⟨r.length + 1, 9, rfl, .inl rfl, HP3.out.2, by rw [HP3.out.1]⟩⟩
end Go.Proofs.YtmbfdkiejneheaaGreatDoor

namespace Go.Proofs.YtmbfdkiejneheaaGreatDoor
open Go.RowKit

/-- Where a text is a pattern. -/
def reB (s : List UInt8) : Bool := decide (s.length ≤ 300) && (match topR withW notW orW s with
 | .ok _ => true
 | .error _ => false)
set_option maxHeartbeats 8000000 in
set_option maxRecDepth 100000 in
theorem rparse_big (s : ByteArray) (w : World) (hs : ¬ s.size ≤ 300) :
  Calls Tryz.prog 128 #[.string s] w fun e w' => e = .returned (.tuple #[Nd.zero.val, .int .i64 0, .int .i64 12]) ∧ Below w.heap.size w w' := by
 have hsi : (300 : Int) < (s.size : Int) := by omega
 have HB := kH ((Below.refl w.heap.size w).alloc (Nat.le_refl _) (.cells #[.int .i64 0, .int .u64 0, .int .u64 0, .int .u64 0, .int .u64 0, .slice none 0 0] 100))
 go_enter Tryz.func128, Tryz.ntmps128
 go_wp2_with fail
 exact bodyPost_ret (v := .tuple #[Nd.zero.val, .int .i64 0, .int .i64 12]) (by simp [results, Tryz.results128, go_sem, Nd.val, Nd.zero, W4.zero]) rfl ⟨rfl, HB.out⟩
theorem reOk_any : ReOk reB := by
 intro s W
 by_cases hs : (⟨s.toArray⟩ : ByteArray).size ≤ 300
 ·
  refine (rparse_any ⟨s.toArray⟩ W hs).mono ?_
  rintro e w' ⟨hb, ⟨t, r, nd, h1, rfl, _⟩ | ⟨n, k, h1, h2, _, rfl⟩⟩
  ·
   refine ⟨nd, 0, 0, rfl, ?_, hb⟩
   have h3 : topR withW notW orW s = .ok (t, r) := h1
   have h4 : s.length ≤ 300 := hs
   simp [reB, h3, h4]
  ·
   refine ⟨Nd.zero, _, k, rfl, ?_, hb⟩
   have h3 : topR withW notW orW s = .error (n, k) := h1
   have h4 : s.length ≤ 300 := hs
   simp [reB, h3, h4]
   omega
 ·
  refine (rparse_big ⟨s.toArray⟩ W hs).mono ?_
  rintro e w' ⟨rfl, hb⟩
  refine ⟨Nd.zero, 0, 12, rfl, ?_, hb⟩
  have h4 : ¬ s.length ≤ 300 := hs
  simp [reB, h4]
theorem RwA.new3 {w : World} {t u v : PT} {n m o : An} {B0 : Nat} (ht : TreeP w (fun k => B0 ≤ k) t n) (hu : TreeP w (fun k => B0 ≤ k) u m) (hv : TreeP w (fun k => B0 ≤ k) v o) (hb : B0 ≤ w.heap.size) :
  RwA (w.alloc (.cells #[.string n.op, .string n.tx, .int .i64 n.pl, .slice n.kp n.kn n.kc, .string m.op, .string m.tx, .int .i64 m.pl, .slice m.kp m.kn m.kc, .string o.op, .string o.tx, .int .i64 o.pl, .slice o.kp o.kn o.kc] 25)) B0 [t, u, v] [n, m, o] (.slice (some ⟨w.heap.size, 0, none⟩) 3 3) := by
 have hk : ∀ {x : PT} {y : An}, TreeP w (fun k => B0 ≤ k) x y → TreeP (w.alloc (.cells #[.string n.op, .string n.tx, .int .i64 n.pl, .slice n.kp n.kn n.kc, .string m.op, .string m.tx, .int .i64 m.pl, .slice m.kp m.kn m.kc, .string o.op, .string o.tx, .int .i64 o.pl, .slice o.kp o.kn o.kc] 25)) (FreeA B0 (.slice (some ⟨w.heap.size, 0, none⟩) 3 3)) x y := fun h => h.kept' (fun k _ hl => Below.heap_alloc _ _ _ hl) (fun k hk hl => ⟨hk, fun e => by
  simp [Value.ownBlock] at e
  omega⟩)
 exact ⟨World.ownsRow_lit (base := B0) (e := 25) (size := 4) w #[.string n.op, .string n.tx, .int .i64 n.pl, .slice n.kp n.kn n.kc, .string m.op, .string m.tx, .int .i64 m.pl, .slice m.kp m.kn m.kc, .string o.op, .string o.tx, .int .i64 o.pl, .slice o.kp o.kn o.kc] 3 hb (by decide) rfl, .cons (hk ht) (.cons (hk hu) (.one (hk hv)))⟩
theorem cfSm : ∀ xs w, (callFunc 70 xs).run Tryz.prog w = .ok (.enter 70 xs) w := fun _ _ => by kernel_rfl
/-- What steps leaves: three nodes. -/
def StPost3 (K : Ps) (w : World) (l : List Tok) (X : TR (List PT)) (dp : Nat) (er : ErO) (e : Ending) (w' : World) : Prop :=
 ∃ ts ns p c l2 er2, e = .returned (.slice p 3 c) ∧ ns.length = 3 ∧ Res X l er ts l2 er2 ∧ Mv K w l2 dp false er2 w' ∧ RwA w' w.heap.size ts ns (.slice p 3 c)
set_option maxHeartbeats 8000000 in
set_option maxRecDepth 100000 in
theorem psteps_any {reOk : List UInt8 → Bool} {K : Ps} (HRe : ReOk reOk) (dp : Nat) (l : List Tok) (er : ErO) (w : World) (hd : dp ≤ 50) (h : Pst w K l dp false er) :
  Calls Tryz.prog 83 #[.pointer (some ⟨K.b, 0, none⟩)] w (StPost3 K w l (stepsP (rcP reOk (50 - dp)) reOk l) dp er) := by
 have CU := kH fun l1 er1 s W hW => punless_any (K := K) (f := 70) (G := simpleP (rcP reOk (50 - dp)) reOk) (dp := dp) (pr := false) cfSm l1 er1 (fun W1 h1 => psimple_any HRe dp l1 er1 W1 hd h1) s W hW
 have CV := kH fun l1 er1 s W hW => punless_any (K := K) (f := 59) (G := (rcP reOk (50 - dp)).E false) (dp := dp) (pr := false) cfE l1 er1 (fun W1 h1 => pexpr_any' HRe dp false l1 er1 W1 hd h1) s W hW
 have CW := kH fun l1 er1 W hW => pwant_any K l1 dp false er1 [59] W hW
 have CL := kH fun l1 er1 => pnls_any K l1 dp false er1
 have HK : Hid (K.b < w.heap.size ∧ K.g < w.heap.size) := kH ⟨h.lt, h.glt⟩
 have H0 := kH (Mv.refl h)
 clear HRe hd h
 go_enter Tryz.func83, Tryz.ntmps83
 go_wp2_with fail
 refine (CU.out _ _ [59] _ H0.out.st).mono ?_
 rintro e w1 ⟨t1, n1, l1, er1, rfl, r1, m1, tr1⟩
 have HR1 := kH r1
 have HT1 := kH tr1
 have H1 := kH (H0.out.trans m1)
 clear m1 r1 tr1
 unfold An.val
 have HBHV1 : Hid (w1.heap.size ≠ K.b) := kH (by have := H1.out.st.lt; omega)
 have HT1 := kH (HT1.out.below ((Below.refl _ _).alloc (Nat.le_refl _) (nB n1)))
 have HV1 := kH (BlkA.new w1 n1)
 have H1 := kH (H1.out.alloc (nB n1))
 go_wp2_with fail
 refine (CW.out _ _ _ H1.out.st).mono ?_
 rintro e w2 ⟨l2, er2, rfl, r2, m2⟩
 have HT1 := kH (HT1.out.onl m2.2 (by have := HK.out; omega))
 have HV1 := kH (HV1.out.onl m2.2 HBHV1.out)
 have HR2 := kH r2
 have H2 := kH (H1.out.trans m2)
 clear m2 r2
 go_wp2_with fail
 have HS2 := kH H2.out.st.tll.nls.1
 refine ((CL.out _ _) _ H2.out.st).mono ?_
 rintro e w3 ⟨rfl, m3⟩
 have HT1 := kH (HT1.out.onl m3.2 (by have := HK.out; omega))
 have HV1 := kH (HV1.out.onl m3.2 HBHV1.out)
 have H3 := kH (H2.out.trans m3)
 clear m3
 go_wp2_with fail
 refine (CV.out _ _ [59] _ H3.out.st).mono ?_
 rintro e w4 ⟨t4, n4, l4, er4, rfl, r4, m4, tr4⟩
 have HT1 := kH (HT1.out.onl m4.2 (by have := HK.out; omega))
 have HV1 := kH (HV1.out.onl m4.2 HBHV1.out)
 have HR4 := kH r4
 have HT4 := kH (tr4.low H3.out.2.size)
 have H4 := kH (H3.out.trans m4)
 clear m4 r4 tr4
 unfold An.val
 have HBHV4 : Hid (w4.heap.size ≠ K.b) := kH (by have := H4.out.st.lt; omega)
 have HT1 := kH (HT1.out.below ((Below.refl _ _).alloc (Nat.le_refl _) (nB n4)))
 have HV1 := kH (HV1.out.alloc (nB n4))
 have HT4 := kH (HT4.out.below ((Below.refl _ _).alloc (Nat.le_refl _) (nB n4)))
 have HV4 := kH (BlkA.new w4 n4)
 have H4 := kH (H4.out.alloc (nB n4))
 go_wp2_with fail
 refine (CW.out _ _ _ H4.out.st).mono ?_
 rintro e w5 ⟨l5, er5, rfl, r5, m5⟩
 have HT1 := kH (HT1.out.onl m5.2 (by have := HK.out; omega))
 have HV1 := kH (HV1.out.onl m5.2 HBHV1.out)
 have HT4 := kH (HT4.out.onl m5.2 (by have := HK.out; omega))
 have HV4 := kH (HV4.out.onl m5.2 HBHV4.out)
 have HR5 := kH r5
 have H5 := kH (H4.out.trans m5)
 clear m5 r5
 go_wp2_with fail
 have HS5 := kH H5.out.st.tll.nls.1
 refine ((CL.out _ _) _ H5.out.st).mono ?_
 rintro e w6 ⟨rfl, m6⟩
 have HT1 := kH (HT1.out.onl m6.2 (by have := HK.out; omega))
 have HV1 := kH (HV1.out.onl m6.2 HBHV1.out)
 have HT4 := kH (HT4.out.onl m6.2 (by have := HK.out; omega))
 have HV4 := kH (HV4.out.onl m6.2 HBHV4.out)
 have H6 := kH (H5.out.trans m6)
 clear m6
 go_wp2_with fail
 have HT1 := kH (HT1.out.drew)
 have HV1 := kH (HV1.out.drew)
 have HT4 := kH (HT4.out.drew)
 have HV4 := kH (HV4.out.drew)
 have H6 := kH H6.out.drew
 refine wp_region_L (st := []) (S := fun Z => BlkA Z w1.heap.size n1 ∧ BlkA Z w4.heap.size n4) (by kernel_rfl) (⟨HV1.out, HV4.out⟩) (fun hHeld => ?_)
 generalize w6.drew = wd6 at *
 refine tkL 0 (v := ?_) rfl ?_ ?_
 rotate_left
 ·
  (intro w hSw; obtain ⟨d0, d1, d2, d3, dk0, dk1, dk2, dk3⟩ := BlkA.cells hSw.1; obtain ⟨b0, b1, b2, b3, bk0, bk1, bk2, bk3⟩ := BlkA.cells hSw.2; go_simp; try with_reducible rfl)
 try simp only [nrm]
 refine tkL 1 (v := ?_) rfl ?_ ?_
 rotate_left
 ·
  (intro w hSw; obtain ⟨d0, d1, d2, d3, dk0, dk1, dk2, dk3⟩ := BlkA.cells hSw.1; obtain ⟨b0, b1, b2, b3, bk0, bk1, bk2, bk3⟩ := BlkA.cells hSw.2; go_simp; try with_reducible rfl)
 try simp only [nrm]
 refine tkL 2 (v := ?_) rfl ?_ ?_
 rotate_left
 ·
  (intro w hSw; obtain ⟨d0, d1, d2, d3, dk0, dk1, dk2, dk3⟩ := BlkA.cells hSw.1; obtain ⟨b0, b1, b2, b3, bk0, bk1, bk2, bk3⟩ := BlkA.cells hSw.2; go_simp; try with_reducible rfl)
 try simp only [nrm]
 refine tkL 3 (v := ?_) rfl ?_ ?_
 rotate_left
 ·
  (intro w hSw; obtain ⟨d0, d1, d2, d3, dk0, dk1, dk2, dk3⟩ := BlkA.cells hSw.1; obtain ⟨b0, b1, b2, b3, bk0, bk1, bk2, bk3⟩ := BlkA.cells hSw.2; go_simp; try with_reducible rfl)
 try simp only [nrm]
 refine tkL 4 (v := ?_) rfl ?_ ?_
 rotate_left
 ·
  (intro w hSw; obtain ⟨d0, d1, d2, d3, dk0, dk1, dk2, dk3⟩ := BlkA.cells hSw.1; obtain ⟨b0, b1, b2, b3, bk0, bk1, bk2, bk3⟩ := BlkA.cells hSw.2; go_simp; try with_reducible rfl)
 try simp only [nrm]
 refine rdL 5 rfl (fun K2 hK => ?_)
 go_simp
 refine (CU.out _ _ [41] _ H6.out.st).mono ?_
 rintro e w7 ⟨t7, n7, l7, er7, rfl, r7, m7, tr7⟩
 have HT1 := kH (HT1.out.onl m7.2 (by have := HK.out; omega))
 have HV1 := kH (HV1.out.onl m7.2 HBHV1.out)
 have HT4 := kH (HT4.out.onl m7.2 (by have := HK.out; omega))
 have HV4 := kH (HV4.out.onl m7.2 HBHV4.out)
 have HR7 := kH r7
 have HT7 := kH (tr7.low H6.out.2.size)
 have H7 := kH (H6.out.trans m7)
 clear m7 r7 tr7
 unfold An.val
 refine hK.out _ _ (⟨HV1.out, HV4.out⟩) (fun hHeld => ?_)
 clear hK K2
 try simp only [nrm]
 have HRW := kH (RwA.new3 HT1.out HT4.out HT7.out H7.out.2.size)
 refine rdL 6 rfl (fun K2 hK => ?_)
 go_simp
 have HT1 := kH (HT1.out.below ((Below.refl _ _).alloc (Nat.le_refl _) (.cells #[.string n1.op, .string n1.tx, .int .i64 n1.pl, .slice n1.kp n1.kn n1.kc, .string n4.op, .string n4.tx, .int .i64 n4.pl, .slice n4.kp n4.kn n4.kc, .string n7.op, .string n7.tx, .int .i64 n7.pl, .slice n7.kp n7.kn n7.kc] 25)))
 have HV1 := kH (HV1.out.alloc (.cells #[.string n1.op, .string n1.tx, .int .i64 n1.pl, .slice n1.kp n1.kn n1.kc, .string n4.op, .string n4.tx, .int .i64 n4.pl, .slice n4.kp n4.kn n4.kc, .string n7.op, .string n7.tx, .int .i64 n7.pl, .slice n7.kp n7.kn n7.kc] 25))
 have HT4 := kH (HT4.out.below ((Below.refl _ _).alloc (Nat.le_refl _) (.cells #[.string n1.op, .string n1.tx, .int .i64 n1.pl, .slice n1.kp n1.kn n1.kc, .string n4.op, .string n4.tx, .int .i64 n4.pl, .slice n4.kp n4.kn n4.kc, .string n7.op, .string n7.tx, .int .i64 n7.pl, .slice n7.kp n7.kn n7.kc] 25)))
 have HV4 := kH (HV4.out.alloc (.cells #[.string n1.op, .string n1.tx, .int .i64 n1.pl, .slice n1.kp n1.kn n1.kc, .string n4.op, .string n4.tx, .int .i64 n4.pl, .slice n4.kp n4.kn n4.kc, .string n7.op, .string n7.tx, .int .i64 n7.pl, .slice n7.kp n7.kn n7.kc] 25))
 have H7 := kH (H7.out.alloc (.cells #[.string n1.op, .string n1.tx, .int .i64 n1.pl, .slice n1.kp n1.kn n1.kc, .string n4.op, .string n4.tx, .int .i64 n4.pl, .slice n4.kp n4.kn n4.kc, .string n7.op, .string n7.tx, .int .i64 n7.pl, .slice n7.kp n7.kn n7.kc] 25))
 refine hK.out _ _ (⟨HV1.out, HV4.out⟩) (fun hHeld => ?_)
 clear hK K2
 try simp only [nrm]
 refine tkL 7 (v := ?_) rfl ?_ ?_
 rotate_left
 ·
  (intro w hSw; obtain ⟨d0, d1, d2, d3, dk0, dk1, dk2, dk3⟩ := BlkA.cells hSw.1; obtain ⟨b0, b1, b2, b3, bk0, bk1, bk2, bk3⟩ := BlkA.cells hSw.2; go_simp; try with_reducible rfl)
 try simp only [nrm]
 refine wpAnyL_done (by kernel_rfl) ?_ _
 go_wp2_with fail
 go_ret
 exact ⟨[t1, t4, t7], [n1, n4, n7], _, 3, l7, er7, rfl, rfl, by unfold stepsP; exact HR1.out.bnd (HR2.out.bnd ((HR4.out.bnd (HR5.out.bnd ((HR7.out.bnd (Res.ret HR7.out.ne)).pre HS5.out))).pre HS2.out)), H7.out, HRW.out⟩
end Go.Proofs.YtmbfdkiejneheaaGreatDoor
