/-
  CONTRACT of layer 10's piece: parts one behind the other, and often; that of any tree.
-/
import Derived.Test.YtmlpkimbcjkbkaaGreatDoorMtP5
namespace Go.Proofs.YtmlpkimbcjkbkaaGreatDoor
open Go.RowKit

set_option maxHeartbeats 8000000 in
set_option maxRecDepth 100000 in
theorem mpiece4 (op : Nat) (st : W4) (ks : List RT) (hPC : ∀ t ∈ ks, PieceC t) (h1 : op = 4) {w : World} {d : Bd} {n : Nat} {T B : Nat → Nat → Prop} {K : Nat → Prop} {kp : Option Addr} (kc : Nat) (hd : d.ok) (h : Bl w d n T B) (hk : KidsAt w K kp ks)
    (hK : ∀ g, K g → g < w.heap.size → ¬ d.own g ∧ g ≠ d.p) (hok : RT.Ok (.mk op st ks)) (hn : n + leafN (.mk op st ks) ≤ d.L) (hlen : ks.length ≤ 1000000) :
    Calls Tryz.prog 37 #[.pointer (some ⟨d.b, 0, none⟩), .agg #[.int .i64 (op : Int), .int .u64 st.a, .int .u64 st.b, .int .u64 st.c, .int .u64 st.d, .slice kp ks.length kc]] w
      (PcPost w d (n + leafN (.mk op st ks)) (fun c x => T c x ∨ Tks hasP (.mk op st ks) n x c) (fun r x => B r x ∨ Bhd (.mk op st ks) n r x) (emp (.mk op st ks)) (Fst (.mk op st ks) n) (Lst (.mk op st ks) n)) := by
  have hlt := h.lt
  have hzl := h.dz.lt
  have hdm := hd.m
  have hdL := hd.L
  obtain ⟨W2, hW2⟩ : ∃ W2, (w.alloc (.cells #[.int .i64 (op : Int), .int .u64 st.a, .int .u64 st.b, .int .u64 st.c, .int .u64 st.d, .slice kp ks.length kc] 45)).alloc (.cells #[.bool false, .bool false, .bool false, .bool false, .int .i64 0, .slice none 0 0, .int .i64 0, .slice none 0 0] 88) = W2 := ⟨_, rfl⟩
  have hb2 : Below w.heap.size w W2 := by rw [← hW2]; exact ((Below.refl _ _).alloc (Nat.le_refl _) _).alloc (by simp) _
  have hz2 : W2.heap.size = w.heap.size + 2 := by rw [← hW2]; simp
  have hx1 : W2.heap[w.heap.size]? = some (.cells #[.int .i64 (op : Int), .int .u64 st.a, .int .u64 st.b, .int .u64 st.c, .int .u64 st.d, .slice kp ks.length kc] 45 (0, 0)) := by rw [← hW2]; exact (Below.heap_alloc _ _ _ (by simp)).trans (mt_heap_new _ _)
  have hx2 : PcZ W2 (w.heap.size + 1) := by
    rw [← hW2]
    have := mt_heap_new (w.alloc (.cells #[.int .i64 (op : Int), .int .u64 st.a, .int .u64 st.b, .int .u64 st.c, .int .u64 st.d, .slice kp ks.length kc] 45)) (.cells #[.bool false, .bool false, .bool false, .bool false, .int .i64 0, .slice none 0 0, .int .i64 0, .slice none 0 0] 88)
    rw [World.size_alloc] at this
    exact this
  have HX1 := Lib.hid hx1
  have HX2 := Lib.hid hx2
  have HB2 := Lib.hid hb2
  have HW2 := Lib.hid hW2
  have HBL2 := Lib.hid (h.kept (fun k _ hl => hb2.block k hl))
  subst h1
  have e1 : emp (.mk 4 st ks) = fun _ => true := by funext k; simp [emp]
  have e2 : Fst (.mk 4 st ks) n = FstC ks n := by funext k x; simp [Fst]
  have e3 : Lst (.mk 4 st ks) n = LstC ks n := by funext k x; simp [Lst]
  have e4 : (fun c x => T c x ∨ Tks hasP (.mk 4 st ks) n x c) = (fun c x => T c x ∨ TksL hasP ks n x c) := by funext c x; simp [Tks]
  have e5 : (fun r x => B r x ∨ Bhd (.mk 4 st ks) n r x) = (fun r x => (B r x ∨ BhdC ks n r x) ∨ (LstC ks n 0 r ∧ FstC ks n 0 x)) := by funext r x; simp [Bhd]; rw [or_assoc]
  have e6 : leafN (.mk 4 st ks) = leavesN ks := by simp [leafN]
  rw [e1, e2, e3, e4, e5, e6]
  rw [e6] at hn
  have hkk : KidsAt W2 (fun g => K g ∧ g < w.heap.size) kp ks := fun k t e => by
    obtain ⟨g, x, q1, q2, q3, q4, q5⟩ := hk k t e
    exact ⟨g, x, q1, ⟨q2, q3⟩, by omega, q4.kept (hb2.block g q3), q5.kept (fun g _ hl => hb2.block g hl) (fun g hg hl => ⟨hg, hl⟩)⟩
  have CX := Lib.hid (mcat_any ks hPC kc hd HBL2.out hkk (fun g hg _ => hK g hg.1 hg.2) hok.2 hn hlen)
  have q1 : W2.cell? ⟨w.heap.size, 0, none⟩ = some (.int .i64 (4)) := rg_cell HX1.out
  have q2 : W2.cell? ⟨w.heap.size, 5, none⟩ = some (.slice kp ks.length kc) := rg_cell HX1.out
  have HDD := Lib.hid hd
  have HN := Lib.hid hn
  clear e1 e2 e3 e4 e5 e6 hkk hPC
  clear hx1 hx2 hb2 hW2 h hk hK hok hn
  go_enter Tryz.func37, Tryz.ntmps37
  go_upto_region 1 with fail
  rw [show ((4 : Nat) : Int) = 4 from rfl] at HW2
  rw [HW2.out]
  clear HW2
  go_wp2_with fail
  refine CX.out.mono ?_
  rintro e w7 ⟨gf, gl, rfl, hpc, hbl, hch⟩
  have HZ7 : Hid (PcZ w7 (w.heap.size + 1)) := Lib.hid (HX2.out.kept (hch.block _ (by omega) (own_lt hlt (by omega))))
  have HX7 := Lib.hid ((hch.block _ (by omega) (own_lt hlt (Nat.le_refl _))).trans HX1.out)
  have hz7 := hch.size
  have hgf := hpc.f.lt
  have hgl := hpc.l.lt
  have hbf := hpc.bf
  have hbl' := hpc.bl
  obtain ⟨W8, hW8⟩ : ∃ W8, w7.alloc (.cells #[.bool (empC ks 0), .bool (empC ks 1), .bool (empC ks 2), .bool (empC ks 3), .int .i64 (d.m : Int), .slice (some ⟨gf, 0, none⟩) (4 * d.m) (4 * d.m), .int .i64 (d.m : Int), .slice (some ⟨gl, 0, none⟩) (4 * d.m) (4 * d.m)] 88) = W8 := ⟨_, rfl⟩
  have hb8 : Below w7.heap.size w7 W8 := by rw [← hW8]; exact (Below.refl _ _).alloc (Nat.le_refl _) _
  have hz8 : W8.heap.size = w7.heap.size + 1 := by rw [← hW8]; simp
  have HK8 : Hid (PcB W8 w7.heap.size d.m (empC ks) gf gl) := Lib.hid (by rw [← hW8]; exact mt_heap_new _ _)
  have HPC8 := Lib.hid (hpc.next hb8)
  have HBL8 := Lib.hid (hbl.next hb8)
  have HCH8 : Hid (Chg d.own W2 W8) := Lib.hid (hch.then (Chg.of_below hb8 (Nat.le_refl _)))
  have HZ8 : Hid (PcZ W8 (w.heap.size + 1)) := Lib.hid (HZ7.out.kept (hb8.block _ (by omega)))
  have HX8 := Lib.hid ((hb8.block _ (by omega)).trans HX7.out)
  have HW8 := Lib.hid hW8
  have q3 : W8.cell? ⟨w.heap.size, 0, none⟩ = some (.int .i64 (4)) := rg_cell HX8.out
  clear hpc hbl hch hb8 hW8 HZ7 HX7 HX1 HX2 q1 q2 HBL2
  unfold pcV
  go_upto_region 11 with fail
  rw [HW8.out]
  clear HW8
  obtain ⟨gp, hgp⟩ : ∃ gp, w7.heap.size = gp := ⟨_, rfl⟩
  rw [hgp] at HK8 hz8 hz7 hgf hgl ⊢
  clear hgp
  have a0 : W8.cell? ⟨gp, 0, none⟩ = some (.bool (empC ks 0)) := rg_cell HK8.out
  have a1 : W8.cell? ⟨gp, 1, none⟩ = some (.bool (empC ks 1)) := rg_cell HK8.out
  have a2 : W8.cell? ⟨gp, 2, none⟩ = some (.bool (empC ks 2)) := rg_cell HK8.out
  have a3 : W8.cell? ⟨gp, 3, none⟩ = some (.bool (empC ks 3)) := rg_cell HK8.out
  have a4 : W8.cell? ⟨gp, 4, none⟩ = some (.int .i64 (d.m : Int)) := rg_cell HK8.out
  have a5 : W8.cell? ⟨gp, 5, none⟩ = some (.slice (some ⟨gf, 0, none⟩) (4 * d.m) (4 * d.m)) := rg_cell HK8.out
  have a6 : W8.cell? ⟨gp, 6, none⟩ = some (.int .i64 (d.m : Int)) := rg_cell HK8.out
  have a7 : W8.cell? ⟨gp, 7, none⟩ = some (.slice (some ⟨gl, 0, none⟩) (4 * d.m) (4 * d.m)) := rg_cell HK8.out
  have CLK : Hid (Calls Tryz.prog 76 #[.pointer (some ⟨d.b, 0, none⟩), .agg #[.bool (empC ks 0), .bool (empC ks 1), .bool (empC ks 2), .bool (empC ks 3), .int .i64 (d.m : Int), .slice (some ⟨gf, 0, none⟩) (4 * d.m) (4 * d.m), .int .i64 (d.m : Int), .slice (some ⟨gl, 0, none⟩) (4 * d.m) (4 * d.m)], .agg #[.bool (empC ks 0), .bool (empC ks 1), .bool (empC ks 2), .bool (empC ks 3), .int .i64 (d.m : Int), .slice (some ⟨gf, 0, none⟩) (4 * d.m) (4 * d.m), .int .i64 (d.m : Int), .slice (some ⟨gl, 0, none⟩) (4 * d.m) (4 * d.m)]] W8 fun e w' => e = .returned (.tuple #[]) ∧ Bl w' d (n + leavesN ks) (fun c x => T c x ∨ TksL hasP ks n x c) (fun r x => (B r x ∨ BhdC ks n r x) ∨ (LstC ks n 0 r ∧ FstC ks n 0 x)) ∧ Chg (fun k => k = d.a ∨ k = d.h) W8 w') := Lib.hid
    (mlink_any HDD.out HBL8.out (E := empC ks) (E2 := empC ks) (gf := gf) (gl2 := gl) HPC8.out.l HPC8.out.f ⟨by omega, by omega, by omega, by omega⟩ (fun x hx => by
      have := LstC.range _ _ _ _ hx
      have := HN.out
      omega) (fun x hx => by
      have := FstC.range _ _ _ _ hx
      have := HN.out
      omega))
  go_wp2_with fail
  refine CLK.out.mono ?_
  rintro e w9 ⟨rfl, hbl9, hch9⟩
  have hna : ∀ k, w.heap.size ≤ k → ¬ (k = d.a ∨ k = d.h) := fun k hk hc => by rcases hc with rfl | rfl <;> omega
  have hz9 := hch9.size
  have HBL9 := Lib.hid hbl9
  have HPC9 := Lib.hid (HPC8.out.chg hch9 (hna _ (by omega)) (hna _ (by omega)))
  have HK9 : Hid (PcB w9 gp d.m (empC ks) gf gl) := Lib.hid (HK8.out.kept (hch9.block gp (by omega) (hna _ (by omega))))
  have HZ9 : Hid (PcZ w9 (w.heap.size + 1)) := Lib.hid (HZ8.out.kept (hch9.block _ (by omega) (hna _ (by omega))))
  have HCH9 : Hid (Chg d.own W2 w9) := Lib.hid (HCH8.out.trans hch9 (fun k _ h => by rcases h with rfl | rfl; exact .inr (.inr (.inl rfl)); exact .inr (.inr (.inr rfl))))
  clear hbl9 hch9 HPC8 HK8 HZ8 HCH8 HBL8 CLK a0 a1 a2 a3 a4 a5 a6 a7 hna
  go_wp2_with fail
  refine (meve_any w9).mono ?_
  rintro e wa ⟨rfl, hba⟩
  have hza := hba.size
  have HKa : Hid (PcB wa gp d.m (empC ks) gf gl) := Lib.hid (HK9.out.kept (hba.block gp (by have := HK9.out.lt; omega)))
  have HPCa := Lib.hid (HPC9.out.next hba)
  have HBLa := Lib.hid (HBL9.out.next hba)
  have HZa : Hid (PcZ wa (w.heap.size + 1)) := Lib.hid (HZ9.out.kept (hba.block _ (by have := HZ9.out.lt; omega)))
  have HCHa : Hid (Chg d.own W2 wa) := Lib.hid (HCH9.out.then (Chg.of_below hba (Nat.le_refl _)))
  obtain ⟨W9, hW9⟩ : ∃ W9, ((((wa.setCell ⟨gp, 0, none⟩ (.bool true)).setCell ⟨gp, 1, none⟩ (.bool true)).setCell ⟨gp, 2, none⟩ (.bool true)).setCell ⟨gp, 3, none⟩ (.bool true)) = W9 := ⟨_, rfl⟩
  have ho9 : Onl gp wa W9 := by rw [← hW9]; exact ((((Onl.refl _ _).setCell _ _).setCell _ _).setCell _ _).setCell _ _
  have HKc : Hid (PcB W9 gp d.m (fun _ => true) gf gl) := Lib.hid (by
    rw [← hW9]
    have h1 := rg_setCell (i := 3) (rg_setCell (i := 2) (rg_setCell (i := 1) (rg_setCell (i := 0) HKa.out (.bool true)) (.bool true)) (.bool true)) (.bool true)
    simp only [List.setIfInBounds_toArray, List.set_cons_zero, List.set_cons_succ] at h1
    exact h1)
  have HPCc := Lib.hid (HPCa.out.onl ho9 (by omega) (by omega))
  have HBLc : Hid (Bl W9 d (n + leavesN ks) _ _) := Lib.hid (HBLa.out.kept (fun k hk hl => ho9.block k hl (by rcases hk with rfl | rfl | rfl | rfl | rfl | rfl <;> omega)))
  have HZc : Hid (PcZ W9 (w.heap.size + 1)) := Lib.hid (HZa.out.kept (ho9.block _ HZa.out.lt (by omega)))
  have HCHc : Hid (Chg d.own W2 W9) := Lib.hid (HCHa.out.trans (Chg.of_onl (C := fun k => k = gp) ho9 (fun _ => rfl)) (fun k hk h => by omega))
  have HW9 := Lib.hid hW9
  have a0 : wa.cell? ⟨gp, 0, none⟩ = some (.bool (empC ks 0)) := rg_cell HKa.out
  have b0 : wa.frozen? ⟨gp, 0, none⟩ = false := rg_frozen HKa.out
  have a1 : wa.cell? ⟨gp, 1, none⟩ = some (.bool (empC ks 1)) := rg_cell HKa.out
  have b1 : wa.frozen? ⟨gp, 1, none⟩ = false := rg_frozen HKa.out
  have a2 : wa.cell? ⟨gp, 2, none⟩ = some (.bool (empC ks 2)) := rg_cell HKa.out
  have b2 : wa.frozen? ⟨gp, 2, none⟩ = false := rg_frozen HKa.out
  have a3 : wa.cell? ⟨gp, 3, none⟩ = some (.bool (empC ks 3)) := rg_cell HKa.out
  have b3 : wa.frozen? ⟨gp, 3, none⟩ = false := rg_frozen HKa.out
  clear hba ho9 hW9 HKa HPCa HBLa HZa HCHa HK9 HPC9 HBL9 HCH9 HZ9
  unfold emV
  go_upto_region 19 with fail
  rw [HW9.out]
  clear HW9 a0 a1 a2 a3 b0 b1 b2 b3
  have a0 : W9.cell? ⟨gp, 0, none⟩ = some (.bool ((fun _ => true : Nat → Bool) 0)) := rg_cell HKc.out
  have a1 : W9.cell? ⟨gp, 1, none⟩ = some (.bool ((fun _ => true : Nat → Bool) 1)) := rg_cell HKc.out
  have a2 : W9.cell? ⟨gp, 2, none⟩ = some (.bool ((fun _ => true : Nat → Bool) 2)) := rg_cell HKc.out
  have a3 : W9.cell? ⟨gp, 3, none⟩ = some (.bool ((fun _ => true : Nat → Bool) 3)) := rg_cell HKc.out
  have a4 : W9.cell? ⟨gp, 4, none⟩ = some (.int .i64 (d.m : Int)) := rg_cell HKc.out
  have a5 : W9.cell? ⟨gp, 5, none⟩ = some (.slice (some ⟨gf, 0, none⟩) (4 * d.m) (4 * d.m)) := rg_cell HKc.out
  have a6 : W9.cell? ⟨gp, 6, none⟩ = some (.int .i64 (d.m : Int)) := rg_cell HKc.out
  have a7 : W9.cell? ⟨gp, 7, none⟩ = some (.slice (some ⟨gl, 0, none⟩) (4 * d.m) (4 * d.m)) := rg_cell HKc.out
  have HZ := HZc
  have z0 : W9.cell? ⟨w.heap.size + 1, 0, none⟩ = some (.bool false) := rg_cell HZ.out
  have f0 : W9.frozen? ⟨w.heap.size + 1, 0, none⟩ = false := rg_frozen HZ.out
  have z1 : W9.cell? ⟨w.heap.size + 1, 1, none⟩ = some (.bool false) := rg_cell HZ.out
  have f1 : W9.frozen? ⟨w.heap.size + 1, 1, none⟩ = false := rg_frozen HZ.out
  have z2 : W9.cell? ⟨w.heap.size + 1, 2, none⟩ = some (.bool false) := rg_cell HZ.out
  have f2 : W9.frozen? ⟨w.heap.size + 1, 2, none⟩ = false := rg_frozen HZ.out
  have z3 : W9.cell? ⟨w.heap.size + 1, 3, none⟩ = some (.bool false) := rg_cell HZ.out
  have f3 : W9.frozen? ⟨w.heap.size + 1, 3, none⟩ = false := rg_frozen HZ.out
  have z4 : W9.cell? ⟨w.heap.size + 1, 4, none⟩ = some (.int .i64 0) := rg_cell HZ.out
  have f4 : W9.frozen? ⟨w.heap.size + 1, 4, none⟩ = false := rg_frozen HZ.out
  have z5 : W9.cell? ⟨w.heap.size + 1, 5, none⟩ = some (.slice none 0 0) := rg_cell HZ.out
  have f5 : W9.frozen? ⟨w.heap.size + 1, 5, none⟩ = false := rg_frozen HZ.out
  have z6 : W9.cell? ⟨w.heap.size + 1, 6, none⟩ = some (.int .i64 0) := rg_cell HZ.out
  have f6 : W9.frozen? ⟨w.heap.size + 1, 6, none⟩ = false := rg_frozen HZ.out
  have z7 : W9.cell? ⟨w.heap.size + 1, 7, none⟩ = some (.slice none 0 0) := rg_cell HZ.out
  have f7 : W9.frozen? ⟨w.heap.size + 1, 7, none⟩ = false := rg_frozen HZ.out
  have HFIN := Lib.hid (pc_fin (r := w.heap.size + 1) (E := fun _ => true) HB2.out (by omega) (by omega) HPCc.out HBLc.out HCHc.out hlt hzl)
  have kk : w.heap.size + 1 ≠ gp := by omega
  clear HKc HPCc HBLc HCHc HZc
  go_wp2_with fail
  refine bodyPost_ret (v := pcV d.m (fun _ => true) gf gl) ?_ rfl ⟨gf, gl, rfl, HFIN.out⟩
  simp [results, Tryz.results37, go_sem, pcV, z0, z1, z2, z3, z4, z5, z6, z7]
set_option maxHeartbeats 8000000 in
set_option maxRecDepth 100000 in
theorem mpiece5 (op : Nat) (st : W4) (ks : List RT) (hPC : ∀ t ∈ ks, PieceC t) (h1 : op = 5) {w : World} {d : Bd} {n : Nat} {T B : Nat → Nat → Prop} {K : Nat → Prop} {kp : Option Addr} (kc : Nat) (hd : d.ok) (h : Bl w d n T B) (hk : KidsAt w K kp ks)
    (hK : ∀ g, K g → g < w.heap.size → ¬ d.own g ∧ g ≠ d.p) (hok : RT.Ok (.mk op st ks)) (hn : n + leafN (.mk op st ks) ≤ d.L) (hlen : ks.length ≤ 1000000) :
    Calls Tryz.prog 37 #[.pointer (some ⟨d.b, 0, none⟩), .agg #[.int .i64 (op : Int), .int .u64 st.a, .int .u64 st.b, .int .u64 st.c, .int .u64 st.d, .slice kp ks.length kc]] w
      (PcPost w d (n + leafN (.mk op st ks)) (fun c x => T c x ∨ Tks hasP (.mk op st ks) n x c) (fun r x => B r x ∨ Bhd (.mk op st ks) n r x) (emp (.mk op st ks)) (Fst (.mk op st ks) n) (Lst (.mk op st ks) n)) := by
  have hlt := h.lt
  have hzl := h.dz.lt
  have hdm := hd.m
  have hdL := hd.L
  obtain ⟨W2, hW2⟩ : ∃ W2, (w.alloc (.cells #[.int .i64 (op : Int), .int .u64 st.a, .int .u64 st.b, .int .u64 st.c, .int .u64 st.d, .slice kp ks.length kc] 45)).alloc (.cells #[.bool false, .bool false, .bool false, .bool false, .int .i64 0, .slice none 0 0, .int .i64 0, .slice none 0 0] 88) = W2 := ⟨_, rfl⟩
  have hb2 : Below w.heap.size w W2 := by rw [← hW2]; exact ((Below.refl _ _).alloc (Nat.le_refl _) _).alloc (by simp) _
  have hz2 : W2.heap.size = w.heap.size + 2 := by rw [← hW2]; simp
  have hx1 : W2.heap[w.heap.size]? = some (.cells #[.int .i64 (op : Int), .int .u64 st.a, .int .u64 st.b, .int .u64 st.c, .int .u64 st.d, .slice kp ks.length kc] 45 (0, 0)) := by rw [← hW2]; exact (Below.heap_alloc _ _ _ (by simp)).trans (mt_heap_new _ _)
  have hx2 : PcZ W2 (w.heap.size + 1) := by
    rw [← hW2]
    have := mt_heap_new (w.alloc (.cells #[.int .i64 (op : Int), .int .u64 st.a, .int .u64 st.b, .int .u64 st.c, .int .u64 st.d, .slice kp ks.length kc] 45)) (.cells #[.bool false, .bool false, .bool false, .bool false, .int .i64 0, .slice none 0 0, .int .i64 0, .slice none 0 0] 88)
    rw [World.size_alloc] at this
    exact this
  have HX1 := Lib.hid hx1
  have HX2 := Lib.hid hx2
  have HB2 := Lib.hid hb2
  have HW2 := Lib.hid hW2
  have HBL2 := Lib.hid (h.kept (fun k _ hl => hb2.block k hl))
  subst h1
  have e1 : emp (.mk 5 st ks) = empC ks := by funext k; simp [emp]
  have e2 : Fst (.mk 5 st ks) n = FstC ks n := by funext k x; simp [Fst]
  have e3 : Lst (.mk 5 st ks) n = LstC ks n := by funext k x; simp [Lst]
  have e4 : (fun c x => T c x ∨ Tks hasP (.mk 5 st ks) n x c) = (fun c x => T c x ∨ TksL hasP ks n x c) := by funext c x; simp [Tks]
  have e5 : (fun r x => B r x ∨ Bhd (.mk 5 st ks) n r x) = (fun r x => (B r x ∨ BhdC ks n r x) ∨ (LstC ks n 0 r ∧ FstC ks n 0 x)) := by funext r x; simp [Bhd]; rw [or_assoc]
  have e6 : leafN (.mk 5 st ks) = leavesN ks := by simp [leafN]
  rw [e1, e2, e3, e4, e5, e6]
  rw [e6] at hn
  have hkk : KidsAt W2 (fun g => K g ∧ g < w.heap.size) kp ks := fun k t e => by
    obtain ⟨g, x, q1, q2, q3, q4, q5⟩ := hk k t e
    exact ⟨g, x, q1, ⟨q2, q3⟩, by omega, q4.kept (hb2.block g q3), q5.kept (fun g _ hl => hb2.block g hl) (fun g hg hl => ⟨hg, hl⟩)⟩
  have CX := Lib.hid (mcat_any ks hPC kc hd HBL2.out hkk (fun g hg _ => hK g hg.1 hg.2) hok.2 hn hlen)
  have q1 : W2.cell? ⟨w.heap.size, 0, none⟩ = some (.int .i64 (5)) := rg_cell HX1.out
  have q2 : W2.cell? ⟨w.heap.size, 5, none⟩ = some (.slice kp ks.length kc) := rg_cell HX1.out
  have HDD := Lib.hid hd
  have HN := Lib.hid hn
  clear e1 e2 e3 e4 e5 e6 hkk hPC
  clear hx1 hx2 hb2 hW2 h hk hK hok hn
  go_enter Tryz.func37, Tryz.ntmps37
  go_upto_region 1 with fail
  rw [show ((5 : Nat) : Int) = 5 from rfl] at HW2
  rw [HW2.out]
  clear HW2
  go_wp2_with fail
  refine CX.out.mono ?_
  rintro e w7 ⟨gf, gl, rfl, hpc, hbl, hch⟩
  have HZ7 : Hid (PcZ w7 (w.heap.size + 1)) := Lib.hid (HX2.out.kept (hch.block _ (by omega) (own_lt hlt (by omega))))
  have HX7 := Lib.hid ((hch.block _ (by omega) (own_lt hlt (Nat.le_refl _))).trans HX1.out)
  have hz7 := hch.size
  have hgf := hpc.f.lt
  have hgl := hpc.l.lt
  have hbf := hpc.bf
  have hbl' := hpc.bl
  obtain ⟨W8, hW8⟩ : ∃ W8, w7.alloc (.cells #[.bool (empC ks 0), .bool (empC ks 1), .bool (empC ks 2), .bool (empC ks 3), .int .i64 (d.m : Int), .slice (some ⟨gf, 0, none⟩) (4 * d.m) (4 * d.m), .int .i64 (d.m : Int), .slice (some ⟨gl, 0, none⟩) (4 * d.m) (4 * d.m)] 88) = W8 := ⟨_, rfl⟩
  have hb8 : Below w7.heap.size w7 W8 := by rw [← hW8]; exact (Below.refl _ _).alloc (Nat.le_refl _) _
  have hz8 : W8.heap.size = w7.heap.size + 1 := by rw [← hW8]; simp
  have HK8 : Hid (PcB W8 w7.heap.size d.m (empC ks) gf gl) := Lib.hid (by rw [← hW8]; exact mt_heap_new _ _)
  have HPC8 := Lib.hid (hpc.next hb8)
  have HBL8 := Lib.hid (hbl.next hb8)
  have HCH8 : Hid (Chg d.own W2 W8) := Lib.hid (hch.then (Chg.of_below hb8 (Nat.le_refl _)))
  have HZ8 : Hid (PcZ W8 (w.heap.size + 1)) := Lib.hid (HZ7.out.kept (hb8.block _ (by omega)))
  have HX8 := Lib.hid ((hb8.block _ (by omega)).trans HX7.out)
  have HW8 := Lib.hid hW8
  have q3 : W8.cell? ⟨w.heap.size, 0, none⟩ = some (.int .i64 (5)) := rg_cell HX8.out
  clear hpc hbl hch hb8 hW8 HZ7 HX7 HX1 HX2 q1 q2 HBL2
  unfold pcV
  go_upto_region 11 with fail
  rw [HW8.out]
  clear HW8
  obtain ⟨gp, hgp⟩ : ∃ gp, w7.heap.size = gp := ⟨_, rfl⟩
  rw [hgp] at HK8 hz8 hz7 hgf hgl ⊢
  clear hgp
  have a0 : W8.cell? ⟨gp, 0, none⟩ = some (.bool (empC ks 0)) := rg_cell HK8.out
  have a1 : W8.cell? ⟨gp, 1, none⟩ = some (.bool (empC ks 1)) := rg_cell HK8.out
  have a2 : W8.cell? ⟨gp, 2, none⟩ = some (.bool (empC ks 2)) := rg_cell HK8.out
  have a3 : W8.cell? ⟨gp, 3, none⟩ = some (.bool (empC ks 3)) := rg_cell HK8.out
  have a4 : W8.cell? ⟨gp, 4, none⟩ = some (.int .i64 (d.m : Int)) := rg_cell HK8.out
  have a5 : W8.cell? ⟨gp, 5, none⟩ = some (.slice (some ⟨gf, 0, none⟩) (4 * d.m) (4 * d.m)) := rg_cell HK8.out
  have a6 : W8.cell? ⟨gp, 6, none⟩ = some (.int .i64 (d.m : Int)) := rg_cell HK8.out
  have a7 : W8.cell? ⟨gp, 7, none⟩ = some (.slice (some ⟨gl, 0, none⟩) (4 * d.m) (4 * d.m)) := rg_cell HK8.out
  have CLK : Hid (Calls Tryz.prog 76 #[.pointer (some ⟨d.b, 0, none⟩), .agg #[.bool (empC ks 0), .bool (empC ks 1), .bool (empC ks 2), .bool (empC ks 3), .int .i64 (d.m : Int), .slice (some ⟨gf, 0, none⟩) (4 * d.m) (4 * d.m), .int .i64 (d.m : Int), .slice (some ⟨gl, 0, none⟩) (4 * d.m) (4 * d.m)], .agg #[.bool (empC ks 0), .bool (empC ks 1), .bool (empC ks 2), .bool (empC ks 3), .int .i64 (d.m : Int), .slice (some ⟨gf, 0, none⟩) (4 * d.m) (4 * d.m), .int .i64 (d.m : Int), .slice (some ⟨gl, 0, none⟩) (4 * d.m) (4 * d.m)]] W8 fun e w' => e = .returned (.tuple #[]) ∧ Bl w' d (n + leavesN ks) (fun c x => T c x ∨ TksL hasP ks n x c) (fun r x => (B r x ∨ BhdC ks n r x) ∨ (LstC ks n 0 r ∧ FstC ks n 0 x)) ∧ Chg (fun k => k = d.a ∨ k = d.h) W8 w') := Lib.hid
    (mlink_any HDD.out HBL8.out (E := empC ks) (E2 := empC ks) (gf := gf) (gl2 := gl) HPC8.out.l HPC8.out.f ⟨by omega, by omega, by omega, by omega⟩ (fun x hx => by
      have := LstC.range _ _ _ _ hx
      have := HN.out
      omega) (fun x hx => by
      have := FstC.range _ _ _ _ hx
      have := HN.out
      omega))
  go_wp2_with fail
  refine CLK.out.mono ?_
  rintro e w9 ⟨rfl, hbl9, hch9⟩
  have hna : ∀ k, w.heap.size ≤ k → ¬ (k = d.a ∨ k = d.h) := fun k hk hc => by rcases hc with rfl | rfl <;> omega
  have hz9 := hch9.size
  have HBL9 := Lib.hid hbl9
  have HPC9 := Lib.hid (HPC8.out.chg hch9 (hna _ (by omega)) (hna _ (by omega)))
  have HK9 : Hid (PcB w9 gp d.m (empC ks) gf gl) := Lib.hid (HK8.out.kept (hch9.block gp (by omega) (hna _ (by omega))))
  have HZ9 : Hid (PcZ w9 (w.heap.size + 1)) := Lib.hid (HZ8.out.kept (hch9.block _ (by omega) (hna _ (by omega))))
  have HCH9 : Hid (Chg d.own W2 w9) := Lib.hid (HCH8.out.trans hch9 (fun k _ h => by rcases h with rfl | rfl; exact .inr (.inr (.inl rfl)); exact .inr (.inr (.inr rfl))))
  clear hbl9 hch9 HPC8 HK8 HZ8 HCH8 HBL8 CLK a0 a1 a2 a3 a4 a5 a6 a7 hna
  have a0 : w9.cell? ⟨gp, 0, none⟩ = some (.bool (empC ks 0)) := rg_cell HK9.out
  have a1 : w9.cell? ⟨gp, 1, none⟩ = some (.bool (empC ks 1)) := rg_cell HK9.out
  have a2 : w9.cell? ⟨gp, 2, none⟩ = some (.bool (empC ks 2)) := rg_cell HK9.out
  have a3 : w9.cell? ⟨gp, 3, none⟩ = some (.bool (empC ks 3)) := rg_cell HK9.out
  have a4 : w9.cell? ⟨gp, 4, none⟩ = some (.int .i64 (d.m : Int)) := rg_cell HK9.out
  have a5 : w9.cell? ⟨gp, 5, none⟩ = some (.slice (some ⟨gf, 0, none⟩) (4 * d.m) (4 * d.m)) := rg_cell HK9.out
  have a6 : w9.cell? ⟨gp, 6, none⟩ = some (.int .i64 (d.m : Int)) := rg_cell HK9.out
  have a7 : w9.cell? ⟨gp, 7, none⟩ = some (.slice (some ⟨gl, 0, none⟩) (4 * d.m) (4 * d.m)) := rg_cell HK9.out
  have HZ := HZ9
  have z0 : w9.cell? ⟨w.heap.size + 1, 0, none⟩ = some (.bool false) := rg_cell HZ.out
  have f0 : w9.frozen? ⟨w.heap.size + 1, 0, none⟩ = false := rg_frozen HZ.out
  have z1 : w9.cell? ⟨w.heap.size + 1, 1, none⟩ = some (.bool false) := rg_cell HZ.out
  have f1 : w9.frozen? ⟨w.heap.size + 1, 1, none⟩ = false := rg_frozen HZ.out
  have z2 : w9.cell? ⟨w.heap.size + 1, 2, none⟩ = some (.bool false) := rg_cell HZ.out
  have f2 : w9.frozen? ⟨w.heap.size + 1, 2, none⟩ = false := rg_frozen HZ.out
  have z3 : w9.cell? ⟨w.heap.size + 1, 3, none⟩ = some (.bool false) := rg_cell HZ.out
  have f3 : w9.frozen? ⟨w.heap.size + 1, 3, none⟩ = false := rg_frozen HZ.out
  have z4 : w9.cell? ⟨w.heap.size + 1, 4, none⟩ = some (.int .i64 0) := rg_cell HZ.out
  have f4 : w9.frozen? ⟨w.heap.size + 1, 4, none⟩ = false := rg_frozen HZ.out
  have z5 : w9.cell? ⟨w.heap.size + 1, 5, none⟩ = some (.slice none 0 0) := rg_cell HZ.out
  have f5 : w9.frozen? ⟨w.heap.size + 1, 5, none⟩ = false := rg_frozen HZ.out
  have z6 : w9.cell? ⟨w.heap.size + 1, 6, none⟩ = some (.int .i64 0) := rg_cell HZ.out
  have f6 : w9.frozen? ⟨w.heap.size + 1, 6, none⟩ = false := rg_frozen HZ.out
  have z7 : w9.cell? ⟨w.heap.size + 1, 7, none⟩ = some (.slice none 0 0) := rg_cell HZ.out
  have f7 : w9.frozen? ⟨w.heap.size + 1, 7, none⟩ = false := rg_frozen HZ.out
  have HFIN := Lib.hid (pc_fin (r := w.heap.size + 1) (E := empC ks) HB2.out (by omega) (by omega) HPC9.out HBL9.out HCH9.out hlt hzl)
  have kk : w.heap.size + 1 ≠ gp := by omega
  clear HK9 HPC9 HBL9 HCH9 HZ9
  go_wp2_with fail
  refine bodyPost_ret (v := pcV d.m (empC ks) gf gl) ?_ rfl ⟨gf, gl, rfl, HFIN.out⟩
  simp [results, Tryz.results37, go_sem, pcV, z0, z1, z2, z3, z4, z5, z6, z7]
set_option maxHeartbeats 8000000 in
set_option maxRecDepth 100000 in
theorem mpiece6 (op : Nat) (st : W4) (ks : List RT) (hPC : ∀ t ∈ ks, PieceC t) (h1 : op = 6) {w : World} {d : Bd} {n : Nat} {T B : Nat → Nat → Prop} {K : Nat → Prop} {kp : Option Addr} (kc : Nat) (hd : d.ok) (h : Bl w d n T B) (hk : KidsAt w K kp ks)
    (hK : ∀ g, K g → g < w.heap.size → ¬ d.own g ∧ g ≠ d.p) (hok : RT.Ok (.mk op st ks)) (hn : n + leafN (.mk op st ks) ≤ d.L) (hlen : ks.length ≤ 1000000) :
    Calls Tryz.prog 37 #[.pointer (some ⟨d.b, 0, none⟩), .agg #[.int .i64 (op : Int), .int .u64 st.a, .int .u64 st.b, .int .u64 st.c, .int .u64 st.d, .slice kp ks.length kc]] w
      (PcPost w d (n + leafN (.mk op st ks)) (fun c x => T c x ∨ Tks hasP (.mk op st ks) n x c) (fun r x => B r x ∨ Bhd (.mk op st ks) n r x) (emp (.mk op st ks)) (Fst (.mk op st ks) n) (Lst (.mk op st ks) n)) := by
  have hlt := h.lt
  have hzl := h.dz.lt
  have hdm := hd.m
  have hdL := hd.L
  obtain ⟨W2, hW2⟩ : ∃ W2, (w.alloc (.cells #[.int .i64 (op : Int), .int .u64 st.a, .int .u64 st.b, .int .u64 st.c, .int .u64 st.d, .slice kp ks.length kc] 45)).alloc (.cells #[.bool false, .bool false, .bool false, .bool false, .int .i64 0, .slice none 0 0, .int .i64 0, .slice none 0 0] 88) = W2 := ⟨_, rfl⟩
  have hb2 : Below w.heap.size w W2 := by rw [← hW2]; exact ((Below.refl _ _).alloc (Nat.le_refl _) _).alloc (by simp) _
  have hz2 : W2.heap.size = w.heap.size + 2 := by rw [← hW2]; simp
  have hx1 : W2.heap[w.heap.size]? = some (.cells #[.int .i64 (op : Int), .int .u64 st.a, .int .u64 st.b, .int .u64 st.c, .int .u64 st.d, .slice kp ks.length kc] 45 (0, 0)) := by rw [← hW2]; exact (Below.heap_alloc _ _ _ (by simp)).trans (mt_heap_new _ _)
  have hx2 : PcZ W2 (w.heap.size + 1) := by
    rw [← hW2]
    have := mt_heap_new (w.alloc (.cells #[.int .i64 (op : Int), .int .u64 st.a, .int .u64 st.b, .int .u64 st.c, .int .u64 st.d, .slice kp ks.length kc] 45)) (.cells #[.bool false, .bool false, .bool false, .bool false, .int .i64 0, .slice none 0 0, .int .i64 0, .slice none 0 0] 88)
    rw [World.size_alloc] at this
    exact this
  have HX1 := Lib.hid hx1
  have HX2 := Lib.hid hx2
  have HB2 := Lib.hid hb2
  have HW2 := Lib.hid hW2
  have HBL2 := Lib.hid (h.kept (fun k _ hl => hb2.block k hl))
  subst h1
  have e1 : emp (.mk 6 st ks) = fun _ => true := by funext k; simp [emp]
  have e2 : Fst (.mk 6 st ks) n = FstC ks n := by funext k x; simp [Fst]
  have e3 : Lst (.mk 6 st ks) n = LstC ks n := by funext k x; simp [Lst]
  have e4 : (fun c x => T c x ∨ Tks hasP (.mk 6 st ks) n x c) = (fun c x => T c x ∨ TksL hasP ks n x c) := by funext c x; simp [Tks]
  have e5 : (fun r x => B r x ∨ Bhd (.mk 6 st ks) n r x) = (fun r x => B r x ∨ BhdC ks n r x) := by funext r x; simp [Bhd]
  have e6 : leafN (.mk 6 st ks) = leavesN ks := by simp [leafN]
  rw [e1, e2, e3, e4, e5, e6]
  rw [e6] at hn
  have hkk : KidsAt W2 (fun g => K g ∧ g < w.heap.size) kp ks := fun k t e => by
    obtain ⟨g, x, q1, q2, q3, q4, q5⟩ := hk k t e
    exact ⟨g, x, q1, ⟨q2, q3⟩, by omega, q4.kept (hb2.block g q3), q5.kept (fun g _ hl => hb2.block g hl) (fun g hg hl => ⟨hg, hl⟩)⟩
  have CX := Lib.hid (mcat_any ks hPC kc hd HBL2.out hkk (fun g hg _ => hK g hg.1 hg.2) hok.2 hn hlen)
  have q1 : W2.cell? ⟨w.heap.size, 0, none⟩ = some (.int .i64 (6)) := rg_cell HX1.out
  have q2 : W2.cell? ⟨w.heap.size, 5, none⟩ = some (.slice kp ks.length kc) := rg_cell HX1.out
  clear e1 e2 e3 e4 e5 e6 hkk hPC
  clear hx1 hx2 hb2 hW2 h hk hK hok hn
  go_enter Tryz.func37, Tryz.ntmps37
  go_upto_region 1 with fail
  rw [show ((6 : Nat) : Int) = 6 from rfl] at HW2
  rw [HW2.out]
  clear HW2
  go_wp2_with fail
  refine CX.out.mono ?_
  rintro e w7 ⟨gf, gl, rfl, hpc, hbl, hch⟩
  have HZ7 : Hid (PcZ w7 (w.heap.size + 1)) := Lib.hid (HX2.out.kept (hch.block _ (by omega) (own_lt hlt (by omega))))
  have HX7 := Lib.hid ((hch.block _ (by omega) (own_lt hlt (Nat.le_refl _))).trans HX1.out)
  have hz7 := hch.size
  have hgf := hpc.f.lt
  have hgl := hpc.l.lt
  have hbf := hpc.bf
  have hbl' := hpc.bl
  obtain ⟨W8, hW8⟩ : ∃ W8, w7.alloc (.cells #[.bool (empC ks 0), .bool (empC ks 1), .bool (empC ks 2), .bool (empC ks 3), .int .i64 (d.m : Int), .slice (some ⟨gf, 0, none⟩) (4 * d.m) (4 * d.m), .int .i64 (d.m : Int), .slice (some ⟨gl, 0, none⟩) (4 * d.m) (4 * d.m)] 88) = W8 := ⟨_, rfl⟩
  have hb8 : Below w7.heap.size w7 W8 := by rw [← hW8]; exact (Below.refl _ _).alloc (Nat.le_refl _) _
  have hz8 : W8.heap.size = w7.heap.size + 1 := by rw [← hW8]; simp
  have HK8 : Hid (PcB W8 w7.heap.size d.m (empC ks) gf gl) := Lib.hid (by rw [← hW8]; exact mt_heap_new _ _)
  have HPC8 := Lib.hid (hpc.next hb8)
  have HBL8 := Lib.hid (hbl.next hb8)
  have HCH8 : Hid (Chg d.own W2 W8) := Lib.hid (hch.then (Chg.of_below hb8 (Nat.le_refl _)))
  have HZ8 : Hid (PcZ W8 (w.heap.size + 1)) := Lib.hid (HZ7.out.kept (hb8.block _ (by omega)))
  have HX8 := Lib.hid ((hb8.block _ (by omega)).trans HX7.out)
  have HW8 := Lib.hid hW8
  have q3 : W8.cell? ⟨w.heap.size, 0, none⟩ = some (.int .i64 (6)) := rg_cell HX8.out
  clear hpc hbl hch hb8 hW8 HZ7 HX7 HX1 HX2 q1 q2 HBL2
  unfold pcV
  go_upto_region 11 with fail
  rw [HW8.out]
  clear HW8
  obtain ⟨gp, hgp⟩ : ∃ gp, w7.heap.size = gp := ⟨_, rfl⟩
  rw [hgp] at HK8 hz8 hz7 hgf hgl ⊢
  clear hgp
  go_wp2_with fail
  refine (meve_any W8).mono ?_
  rintro e wa ⟨rfl, hba⟩
  have hza := hba.size
  have HKa : Hid (PcB wa gp d.m (empC ks) gf gl) := Lib.hid (HK8.out.kept (hba.block gp (by have := HK8.out.lt; omega)))
  have HPCa := Lib.hid (HPC8.out.next hba)
  have HBLa := Lib.hid (HBL8.out.next hba)
  have HZa : Hid (PcZ wa (w.heap.size + 1)) := Lib.hid (HZ8.out.kept (hba.block _ (by have := HZ8.out.lt; omega)))
  have HCHa : Hid (Chg d.own W2 wa) := Lib.hid (HCH8.out.then (Chg.of_below hba (Nat.le_refl _)))
  obtain ⟨W9, hW9⟩ : ∃ W9, ((((wa.setCell ⟨gp, 0, none⟩ (.bool true)).setCell ⟨gp, 1, none⟩ (.bool true)).setCell ⟨gp, 2, none⟩ (.bool true)).setCell ⟨gp, 3, none⟩ (.bool true)) = W9 := ⟨_, rfl⟩
  have ho9 : Onl gp wa W9 := by rw [← hW9]; exact ((((Onl.refl _ _).setCell _ _).setCell _ _).setCell _ _).setCell _ _
  have HKc : Hid (PcB W9 gp d.m (fun _ => true) gf gl) := Lib.hid (by
    rw [← hW9]
    have h1 := rg_setCell (i := 3) (rg_setCell (i := 2) (rg_setCell (i := 1) (rg_setCell (i := 0) HKa.out (.bool true)) (.bool true)) (.bool true)) (.bool true)
    simp only [List.setIfInBounds_toArray, List.set_cons_zero, List.set_cons_succ] at h1
    exact h1)
  have HPCc := Lib.hid (HPCa.out.onl ho9 (by omega) (by omega))
  have HBLc : Hid (Bl W9 d (n + leavesN ks) _ _) := Lib.hid (HBLa.out.kept (fun k hk hl => ho9.block k hl (by rcases hk with rfl | rfl | rfl | rfl | rfl | rfl <;> omega)))
  have HZc : Hid (PcZ W9 (w.heap.size + 1)) := Lib.hid (HZa.out.kept (ho9.block _ HZa.out.lt (by omega)))
  have HCHc : Hid (Chg d.own W2 W9) := Lib.hid (HCHa.out.trans (Chg.of_onl (C := fun k => k = gp) ho9 (fun _ => rfl)) (fun k hk h => by omega))
  have HW9 := Lib.hid hW9
  have a0 : wa.cell? ⟨gp, 0, none⟩ = some (.bool (empC ks 0)) := rg_cell HKa.out
  have b0 : wa.frozen? ⟨gp, 0, none⟩ = false := rg_frozen HKa.out
  have a1 : wa.cell? ⟨gp, 1, none⟩ = some (.bool (empC ks 1)) := rg_cell HKa.out
  have b1 : wa.frozen? ⟨gp, 1, none⟩ = false := rg_frozen HKa.out
  have a2 : wa.cell? ⟨gp, 2, none⟩ = some (.bool (empC ks 2)) := rg_cell HKa.out
  have b2 : wa.frozen? ⟨gp, 2, none⟩ = false := rg_frozen HKa.out
  have a3 : wa.cell? ⟨gp, 3, none⟩ = some (.bool (empC ks 3)) := rg_cell HKa.out
  have b3 : wa.frozen? ⟨gp, 3, none⟩ = false := rg_frozen HKa.out
  clear hba ho9 hW9 HKa HPCa HBLa HZa HCHa HK8 HPC8 HBL8 HCH8 HZ8
  unfold emV
  go_upto_region 19 with fail
  rw [HW9.out]
  clear HW9 a0 a1 a2 a3 b0 b1 b2 b3
  have a0 : W9.cell? ⟨gp, 0, none⟩ = some (.bool ((fun _ => true : Nat → Bool) 0)) := rg_cell HKc.out
  have a1 : W9.cell? ⟨gp, 1, none⟩ = some (.bool ((fun _ => true : Nat → Bool) 1)) := rg_cell HKc.out
  have a2 : W9.cell? ⟨gp, 2, none⟩ = some (.bool ((fun _ => true : Nat → Bool) 2)) := rg_cell HKc.out
  have a3 : W9.cell? ⟨gp, 3, none⟩ = some (.bool ((fun _ => true : Nat → Bool) 3)) := rg_cell HKc.out
  have a4 : W9.cell? ⟨gp, 4, none⟩ = some (.int .i64 (d.m : Int)) := rg_cell HKc.out
  have a5 : W9.cell? ⟨gp, 5, none⟩ = some (.slice (some ⟨gf, 0, none⟩) (4 * d.m) (4 * d.m)) := rg_cell HKc.out
  have a6 : W9.cell? ⟨gp, 6, none⟩ = some (.int .i64 (d.m : Int)) := rg_cell HKc.out
  have a7 : W9.cell? ⟨gp, 7, none⟩ = some (.slice (some ⟨gl, 0, none⟩) (4 * d.m) (4 * d.m)) := rg_cell HKc.out
  have HZ := HZc
  have z0 : W9.cell? ⟨w.heap.size + 1, 0, none⟩ = some (.bool false) := rg_cell HZ.out
  have f0 : W9.frozen? ⟨w.heap.size + 1, 0, none⟩ = false := rg_frozen HZ.out
  have z1 : W9.cell? ⟨w.heap.size + 1, 1, none⟩ = some (.bool false) := rg_cell HZ.out
  have f1 : W9.frozen? ⟨w.heap.size + 1, 1, none⟩ = false := rg_frozen HZ.out
  have z2 : W9.cell? ⟨w.heap.size + 1, 2, none⟩ = some (.bool false) := rg_cell HZ.out
  have f2 : W9.frozen? ⟨w.heap.size + 1, 2, none⟩ = false := rg_frozen HZ.out
  have z3 : W9.cell? ⟨w.heap.size + 1, 3, none⟩ = some (.bool false) := rg_cell HZ.out
  have f3 : W9.frozen? ⟨w.heap.size + 1, 3, none⟩ = false := rg_frozen HZ.out
  have z4 : W9.cell? ⟨w.heap.size + 1, 4, none⟩ = some (.int .i64 0) := rg_cell HZ.out
  have f4 : W9.frozen? ⟨w.heap.size + 1, 4, none⟩ = false := rg_frozen HZ.out
  have z5 : W9.cell? ⟨w.heap.size + 1, 5, none⟩ = some (.slice none 0 0) := rg_cell HZ.out
  have f5 : W9.frozen? ⟨w.heap.size + 1, 5, none⟩ = false := rg_frozen HZ.out
  have z6 : W9.cell? ⟨w.heap.size + 1, 6, none⟩ = some (.int .i64 0) := rg_cell HZ.out
  have f6 : W9.frozen? ⟨w.heap.size + 1, 6, none⟩ = false := rg_frozen HZ.out
  have z7 : W9.cell? ⟨w.heap.size + 1, 7, none⟩ = some (.slice none 0 0) := rg_cell HZ.out
  have f7 : W9.frozen? ⟨w.heap.size + 1, 7, none⟩ = false := rg_frozen HZ.out
  have HFIN := Lib.hid (pc_fin (r := w.heap.size + 1) (E := fun _ => true) HB2.out (by omega) (by omega) HPCc.out HBLc.out HCHc.out hlt hzl)
  have kk : w.heap.size + 1 ≠ gp := by omega
  clear HKc HPCc HBLc HCHc HZc
  go_wp2_with fail
  refine bodyPost_ret (v := pcV d.m (fun _ => true) gf gl) ?_ rfl ⟨gf, gl, rfl, HFIN.out⟩
  simp [results, Tryz.results37, go_sem, pcV, z0, z1, z2, z3, z4, z5, z6, z7]
set_option maxHeartbeats 8000000 in
set_option maxRecDepth 100000 in
theorem mpiece0 (op : Nat) (st : W4) (ks : List RT) (hPC : ∀ t ∈ ks, PieceC t) (h1 : op ≠ 1 ∧ op ≠ 3 ∧ op ≠ 7 ∧ op ≠ 8 ∧ op ≠ 4 ∧ op ≠ 5 ∧ op ≠ 6 ∧ op ≤ 1000) {w : World} {d : Bd} {n : Nat} {T B : Nat → Nat → Prop} {K : Nat → Prop} {kp : Option Addr} (kc : Nat) (hd : d.ok) (h : Bl w d n T B) (hk : KidsAt w K kp ks)
    (hK : ∀ g, K g → g < w.heap.size → ¬ d.own g ∧ g ≠ d.p) (hok : RT.Ok (.mk op st ks)) (hn : n + leafN (.mk op st ks) ≤ d.L) (hlen : ks.length ≤ 1000000) :
    Calls Tryz.prog 37 #[.pointer (some ⟨d.b, 0, none⟩), .agg #[.int .i64 (op : Int), .int .u64 st.a, .int .u64 st.b, .int .u64 st.c, .int .u64 st.d, .slice kp ks.length kc]] w
      (PcPost w d (n + leafN (.mk op st ks)) (fun c x => T c x ∨ Tks hasP (.mk op st ks) n x c) (fun r x => B r x ∨ Bhd (.mk op st ks) n r x) (emp (.mk op st ks)) (Fst (.mk op st ks) n) (Lst (.mk op st ks) n)) := by
  have hlt := h.lt
  have hzl := h.dz.lt
  have hdm := hd.m
  have hdL := hd.L
  obtain ⟨W2, hW2⟩ : ∃ W2, (w.alloc (.cells #[.int .i64 (op : Int), .int .u64 st.a, .int .u64 st.b, .int .u64 st.c, .int .u64 st.d, .slice kp ks.length kc] 45)).alloc (.cells #[.bool false, .bool false, .bool false, .bool false, .int .i64 0, .slice none 0 0, .int .i64 0, .slice none 0 0] 88) = W2 := ⟨_, rfl⟩
  have hb2 : Below w.heap.size w W2 := by rw [← hW2]; exact ((Below.refl _ _).alloc (Nat.le_refl _) _).alloc (by simp) _
  have hz2 : W2.heap.size = w.heap.size + 2 := by rw [← hW2]; simp
  have hx1 : W2.heap[w.heap.size]? = some (.cells #[.int .i64 (op : Int), .int .u64 st.a, .int .u64 st.b, .int .u64 st.c, .int .u64 st.d, .slice kp ks.length kc] 45 (0, 0)) := by rw [← hW2]; exact (Below.heap_alloc _ _ _ (by simp)).trans (mt_heap_new _ _)
  have hx2 : PcZ W2 (w.heap.size + 1) := by
    rw [← hW2]
    have := mt_heap_new (w.alloc (.cells #[.int .i64 (op : Int), .int .u64 st.a, .int .u64 st.b, .int .u64 st.c, .int .u64 st.d, .slice kp ks.length kc] 45)) (.cells #[.bool false, .bool false, .bool false, .bool false, .int .i64 0, .slice none 0 0, .int .i64 0, .slice none 0 0] 88)
    rw [World.size_alloc] at this
    exact this
  have HX1 := Lib.hid hx1
  have HX2 := Lib.hid hx2
  have HB2 := Lib.hid hb2
  have HW2 := Lib.hid hW2
  have HBL2 := Lib.hid (h.kept (fun k _ hl => hb2.block k hl))
  obtain ⟨n1, n3, n7, n8, n4, n5, n6, nb⟩ := h1
  have e1 : emp (.mk op st ks) = empC ks := by funext k; simp [emp, n1, n3, n7, n8, n4, n5, n6]
  have e2 : Fst (.mk op st ks) n = FstC ks n := by funext k x; simp [Fst, n1, n3, n7, n8]
  have e3 : Lst (.mk op st ks) n = LstC ks n := by funext k x; simp [Lst, n1, n3, n7, n8]
  have e4 : (fun c x => T c x ∨ Tks hasP (.mk op st ks) n x c) = (fun c x => T c x ∨ TksL hasP ks n x c) := by funext c x; simp [Tks, n1, n7, n8]
  have e5 : (fun r x => B r x ∨ Bhd (.mk op st ks) n r x) = (fun r x => B r x ∨ BhdC ks n r x) := by funext r x; simp [Bhd, n1, n3, n7, n8, n4, n5]
  have e6 : leafN (.mk op st ks) = leavesN ks := by simp [leafN, n1, n7, n8]
  rw [e1, e2, e3, e4, e5, e6]
  rw [e6] at hn
  have hkk : KidsAt W2 (fun g => K g ∧ g < w.heap.size) kp ks := fun k t e => by
    obtain ⟨g, x, q1, q2, q3, q4, q5⟩ := hk k t e
    exact ⟨g, x, q1, ⟨q2, q3⟩, by omega, q4.kept (hb2.block g q3), q5.kept (fun g _ hl => hb2.block g hl) (fun g hg hl => ⟨hg, hl⟩)⟩
  have CX := Lib.hid (mcat_any ks hPC kc hd HBL2.out hkk (fun g hg _ => hK g hg.1 hg.2) hok.2 hn hlen)
  have q1 : W2.cell? ⟨w.heap.size, 0, none⟩ = some (.int .i64 ((op : Int))) := rg_cell HX1.out
  have q2 : W2.cell? ⟨w.heap.size, 5, none⟩ = some (.slice kp ks.length kc) := rg_cell HX1.out
  have m1 : ((op : Int) == 1) = false := by simp; omega
  have m3 : ((op : Int) == 3) = false := by simp; omega
  have m7 : ((op : Int) == 7) = false := by simp; omega
  have m8 : ((op : Int) == 8) = false := by simp; omega
  have m4 : ((op : Int) == 4) = false := by simp; omega
  have m5 : ((op : Int) == 5) = false := by simp; omega
  have m6 : ((op : Int) == 6) = false := by simp; omega
  clear e1 e2 e3 e4 e5 e6 hkk hPC n1 n3 n7 n8 n4 n5 n6
  clear hx1 hx2 hb2 hW2 h hk hK hok hn
  go_enter Tryz.func37, Tryz.ntmps37
  go_upto_region 1 with fail
  rw [HW2.out]
  clear HW2
  go_wp2_with fail
  refine CX.out.mono ?_
  rintro e w7 ⟨gf, gl, rfl, hpc, hbl, hch⟩
  have HZ7 : Hid (PcZ w7 (w.heap.size + 1)) := Lib.hid (HX2.out.kept (hch.block _ (by omega) (own_lt hlt (by omega))))
  have HX7 := Lib.hid ((hch.block _ (by omega) (own_lt hlt (Nat.le_refl _))).trans HX1.out)
  have hz7 := hch.size
  have hgf := hpc.f.lt
  have hgl := hpc.l.lt
  have hbf := hpc.bf
  have hbl' := hpc.bl
  obtain ⟨W8, hW8⟩ : ∃ W8, w7.alloc (.cells #[.bool (empC ks 0), .bool (empC ks 1), .bool (empC ks 2), .bool (empC ks 3), .int .i64 (d.m : Int), .slice (some ⟨gf, 0, none⟩) (4 * d.m) (4 * d.m), .int .i64 (d.m : Int), .slice (some ⟨gl, 0, none⟩) (4 * d.m) (4 * d.m)] 88) = W8 := ⟨_, rfl⟩
  have hb8 : Below w7.heap.size w7 W8 := by rw [← hW8]; exact (Below.refl _ _).alloc (Nat.le_refl _) _
  have hz8 : W8.heap.size = w7.heap.size + 1 := by rw [← hW8]; simp
  have HK8 : Hid (PcB W8 w7.heap.size d.m (empC ks) gf gl) := Lib.hid (by rw [← hW8]; exact mt_heap_new _ _)
  have HPC8 := Lib.hid (hpc.next hb8)
  have HBL8 := Lib.hid (hbl.next hb8)
  have HCH8 : Hid (Chg d.own W2 W8) := Lib.hid (hch.then (Chg.of_below hb8 (Nat.le_refl _)))
  have HZ8 : Hid (PcZ W8 (w.heap.size + 1)) := Lib.hid (HZ7.out.kept (hb8.block _ (by omega)))
  have HX8 := Lib.hid ((hb8.block _ (by omega)).trans HX7.out)
  have HW8 := Lib.hid hW8
  have q3 : W8.cell? ⟨w.heap.size, 0, none⟩ = some (.int .i64 ((op : Int))) := rg_cell HX8.out
  clear hpc hbl hch hb8 hW8 HZ7 HX7 HX1 HX2 q1 q2 HBL2
  unfold pcV
  go_upto_region 11 with fail
  rw [HW8.out]
  clear HW8
  obtain ⟨gp, hgp⟩ : ∃ gp, w7.heap.size = gp := ⟨_, rfl⟩
  rw [hgp] at HK8 hz8 hz7 hgf hgl ⊢
  clear hgp
  have a0 : W8.cell? ⟨gp, 0, none⟩ = some (.bool (empC ks 0)) := rg_cell HK8.out
  have a1 : W8.cell? ⟨gp, 1, none⟩ = some (.bool (empC ks 1)) := rg_cell HK8.out
  have a2 : W8.cell? ⟨gp, 2, none⟩ = some (.bool (empC ks 2)) := rg_cell HK8.out
  have a3 : W8.cell? ⟨gp, 3, none⟩ = some (.bool (empC ks 3)) := rg_cell HK8.out
  have a4 : W8.cell? ⟨gp, 4, none⟩ = some (.int .i64 (d.m : Int)) := rg_cell HK8.out
  have a5 : W8.cell? ⟨gp, 5, none⟩ = some (.slice (some ⟨gf, 0, none⟩) (4 * d.m) (4 * d.m)) := rg_cell HK8.out
  have a6 : W8.cell? ⟨gp, 6, none⟩ = some (.int .i64 (d.m : Int)) := rg_cell HK8.out
  have a7 : W8.cell? ⟨gp, 7, none⟩ = some (.slice (some ⟨gl, 0, none⟩) (4 * d.m) (4 * d.m)) := rg_cell HK8.out
  have HZ := HZ8
  have z0 : W8.cell? ⟨w.heap.size + 1, 0, none⟩ = some (.bool false) := rg_cell HZ.out
  have f0 : W8.frozen? ⟨w.heap.size + 1, 0, none⟩ = false := rg_frozen HZ.out
  have z1 : W8.cell? ⟨w.heap.size + 1, 1, none⟩ = some (.bool false) := rg_cell HZ.out
  have f1 : W8.frozen? ⟨w.heap.size + 1, 1, none⟩ = false := rg_frozen HZ.out
  have z2 : W8.cell? ⟨w.heap.size + 1, 2, none⟩ = some (.bool false) := rg_cell HZ.out
  have f2 : W8.frozen? ⟨w.heap.size + 1, 2, none⟩ = false := rg_frozen HZ.out
  have z3 : W8.cell? ⟨w.heap.size + 1, 3, none⟩ = some (.bool false) := rg_cell HZ.out
  have f3 : W8.frozen? ⟨w.heap.size + 1, 3, none⟩ = false := rg_frozen HZ.out
  have z4 : W8.cell? ⟨w.heap.size + 1, 4, none⟩ = some (.int .i64 0) := rg_cell HZ.out
  have f4 : W8.frozen? ⟨w.heap.size + 1, 4, none⟩ = false := rg_frozen HZ.out
  have z5 : W8.cell? ⟨w.heap.size + 1, 5, none⟩ = some (.slice none 0 0) := rg_cell HZ.out
  have f5 : W8.frozen? ⟨w.heap.size + 1, 5, none⟩ = false := rg_frozen HZ.out
  have z6 : W8.cell? ⟨w.heap.size + 1, 6, none⟩ = some (.int .i64 0) := rg_cell HZ.out
  have f6 : W8.frozen? ⟨w.heap.size + 1, 6, none⟩ = false := rg_frozen HZ.out
  have z7 : W8.cell? ⟨w.heap.size + 1, 7, none⟩ = some (.slice none 0 0) := rg_cell HZ.out
  have f7 : W8.frozen? ⟨w.heap.size + 1, 7, none⟩ = false := rg_frozen HZ.out
  have HFIN := Lib.hid (pc_fin (r := w.heap.size + 1) (E := empC ks) HB2.out (by omega) (by omega) HPC8.out HBL8.out HCH8.out hlt hzl)
  have kk : w.heap.size + 1 ≠ gp := by omega
  clear HK8 HPC8 HBL8 HCH8 HZ8
  go_wp2_with fail
  refine bodyPost_ret (v := pcV d.m (empC ks) gf gl) ?_ rfl ⟨gf, gl, rfl, HFIN.out⟩
  simp [results, Tryz.results37, go_sem, pcV, z0, z1, z2, z3, z4, z5, z6, z7]
mutual
/-- Each node's sign is at most 8, no node has very many kids. -/
def RT.Few : RT → Prop
  | .mk op _ ks => op ≤ 8 ∧ ks.length ≤ 1000000 ∧ FewL ks
def FewL : List RT → Prop
  | [] => True
  | t :: ts => t.Few ∧ FewL ts
end
theorem FewL.mem : ∀ {ts : List RT}, FewL ts → ∀ t ∈ ts, t.Few
  | [], _, t, h => by cases h
  | u :: ts, hk, t, h => by
    unfold FewL at hk
    rcases List.mem_cons.1 h with rfl | h
    · exact hk.1
    · exact hk.2.mem t h
theorem mpiece_any : ∀ (t : RT), t.Few → PieceC t
  | .mk op st ks, hf => by
    unfold RT.Few at hf
    have hPC : ∀ t ∈ ks, PieceC t := fun t ht => mpiece_any t (hf.2.2.mem t ht)
    intro w d n T B nd K hd hbl htr hK hok hn
    obtain ⟨hk, h2, h3, h4⟩ := kids_at htr
    obtain ⟨nop, nst, kp, kn, kc⟩ := nd
    simp only at h2 h3 h4 hk
    subst h2 h3 h4
    by_cases c1 : op = 1
    · exact mpiece1 op _ ks c1 kc hd hbl hk hK hok hn hf.2.1
    by_cases c3 : op = 3
    · exact mpiece3 op _ ks hPC c3 kc hd hbl hk hK hok hn hf.2.1
    by_cases c7 : op = 7
    · exact mpiece7 op _ ks c7 kc hd hbl hk hK hok hn hf.2.1
    by_cases c8 : op = 8
    · exact mpiece8 op _ ks c8 kc hd hbl hk hK hok hn hf.2.1
    by_cases c4 : op = 4
    · exact mpiece4 op _ ks hPC c4 kc hd hbl hk hK hok hn hf.2.1
    by_cases c5 : op = 5
    · exact mpiece5 op _ ks hPC c5 kc hd hbl hk hK hok hn hf.2.1
    by_cases c6 : op = 6
    · exact mpiece6 op _ ks hPC c6 kc hd hbl hk hK hok hn hf.2.1
    exact mpiece0 op _ ks hPC ⟨c1, c3, c7, c8, c4, c5, c6, by omega⟩ kc hd hbl hk hK hok hn hf.2.1
termination_by t => SizeOf.sizeOf t
decreasing_by
  have := List.sizeOf_lt_of_mem ht
  simp
  omega
end Go.Proofs.YtmlpkimbcjkbkaaGreatDoor
