/-
  CONTRACT of layer 10's piece: that of any tree; its leaves, and which may stand behind which, are known from then on.
-/
import Derived.Test.YtmlpkimbcjkbkaaGreatDoorMtP4
namespace Go.Proofs.YtmlpkimbcjkbkaaGreatDoor
open Go.RowKit

theorem pc_fin {w W2 w7 : World} {d : Bd} {n r gf gl : Nat} {T B F G : Nat → Nat → Prop} {E : Nat → Bool} (hb : Below w.heap.size w W2) (hr : w.heap.size ≤ r) (hr2 : r < W2.heap.size)
    (hpc : Pc w7 d.m W2.heap.size gf gl F G) (hbl : Bl w7 d n T B) (hch : Chg d.own W2 w7) (hlt : d.b < w.heap.size ∧ d.p < w.heap.size ∧ d.t < w.heap.size ∧ d.a < w.heap.size ∧ d.h < w.heap.size) (hzl : (0 : Nat) < w.heap.size) :
    Pc (put8 w7 r d.m E gf gl) d.m w.heap.size gf gl F G ∧ Bl (put8 w7 r d.m E gf gl) d n T B ∧ Chg d.own w (put8 w7 r d.m E gf gl) := by
  have ho : Onl r w7 (put8 w7 r d.m E gf gl) := put8_onl
  have h1 := hpc.bf
  have h2 := hpc.bl
  have h3 := hb.size
  exact ⟨(hpc.onl ho (by omega) (by omega)).less h3, hbl.kept (fun k hk hl => ho.block k hl (by rcases hk with rfl | rfl | rfl | rfl | rfl | rfl <;> omega)),
    ((Chg.of_below hb (Nat.le_refl _)).then hch).trans (Chg.of_onl (C := fun k => k = r) ho (fun _ => rfl)) (fun k hk h => by omega)⟩
theorem own_lt {w : World} {d : Bd} {r : Nat} (hlt : d.b < w.heap.size ∧ d.p < w.heap.size ∧ d.t < w.heap.size ∧ d.a < w.heap.size ∧ d.h < w.heap.size) (hr : w.heap.size ≤ r) : ¬ d.own r := fun hc => by rcases hc with rfl | rfl | rfl | rfl <;> omega
set_option maxHeartbeats 8000000 in
set_option maxRecDepth 100000 in
theorem mpiece1 (op : Nat) (st : W4) (ks : List RT) (h1 : op = 1) {w : World} {d : Bd} {n : Nat} {T B : Nat → Nat → Prop} {K : Nat → Prop} {kp : Option Addr} (kc : Nat) (hd : d.ok) (h : Bl w d n T B) (_hk : KidsAt w K kp ks)
    (_hK : ∀ g, K g → g < w.heap.size → ¬ d.own g ∧ g ≠ d.p) (hok : RT.Ok (.mk op st ks)) (hn : n + leafN (.mk op st ks) ≤ d.L) (_hlen : ks.length ≤ 1000000) :
    Calls Tryz.prog 37 #[.pointer (some ⟨d.b, 0, none⟩), .agg #[.int .i64 (op : Int), .int .u64 st.a, .int .u64 st.b, .int .u64 st.c, .int .u64 st.d, .slice kp ks.length kc]] w
      (PcPost w d (n + leafN (.mk op st ks)) (fun c x => T c x ∨ Tks hasP (.mk op st ks) n x c) (fun r x => B r x ∨ Bhd (.mk op st ks) n r x) (emp (.mk op st ks)) (Fst (.mk op st ks) n) (Lst (.mk op st ks) n)) := by
  have hlt := h.lt
  have hzl := h.dz.lt
  have hdm := hd.m
  have hdL := hd.L
  obtain ⟨W2, hW2⟩ : ∃ W2, (w.alloc (.cells #[.int .i64 (op : Int), .int .u64 st.a, .int .u64 st.b, .int .u64 st.c, .int .u64 st.d, .slice kp ks.length kc] 45)).alloc (.cells #[.bool false, .bool false, .bool false, .bool false, .int .i64 0, .slice none 0 0, .int .i64 0, .slice none 0 0] 88) = W2 := ⟨_, rfl⟩
  have hb2 : Below w.heap.size w W2 := by rw [← hW2]; exact ((Below.refl _ _).alloc (Nat.le_refl _) _).alloc (by simp) _
  have hz2 : W2.heap.size = w.heap.size + 2 := by rw [← hW2]; simp
  have hx1 : W2.heap[w.heap.size]? = some (.cells #[.int .i64 (op : Int), .int .u64 st.a, .int .u64 st.b, .int .u64 st.c, .int .u64 st.d, .slice kp ks.length kc] 45 (0, 0)) := by rw [← hW2]; exact (Below.heap_alloc _ _ _ (by simp)).trans (mt_heap_new _ _)
  have hx2 : PcZ W2 (w.heap.size + 1) := by
    rw [← hW2]
    have := mt_heap_new (w.alloc (.cells #[.int .i64 (op : Int), .int .u64 st.a, .int .u64 st.b, .int .u64 st.c, .int .u64 st.d, .slice kp ks.length kc] 45)) (.cells #[.bool false, .bool false, .bool false, .bool false, .int .i64 0, .slice none 0 0, .int .i64 0, .slice none 0 0] 88)
    rw [World.size_alloc] at this
    exact this
  have HX1 := Lib.hid hx1
  have HX2 := Lib.hid hx2
  have HB2 := Lib.hid hb2
  have HW2 := Lib.hid hW2
  have HBL2 := Lib.hid (h.kept (fun k _ hl => hb2.block k hl))
  subst h1
  have hok1 : st.Ok := hok.1 rfl
  have e1 : emp (.mk 1 st ks) = fun _ => false := by funext k; simp [emp]
  have e2 : Fst (.mk 1 st ks) n = fun _ x => x = n := by funext k x; simp [Fst]
  have e3 : Lst (.mk 1 st ks) n = fun _ x => x = n := by funext k x; simp [Lst]
  have e4 : (fun c x => T c x ∨ Tks hasP (.mk 1 st ks) n x c) = (fun c x => T c x ∨ (x = n ∧ st.has c = true)) := by funext c x; simp [Tks, hasP]
  have e5 : (fun r x => B r x ∨ Bhd (.mk 1 st ks) n r x) = B := by funext r x; simp [Bhd]
  have e6 : leafN (.mk 1 st ks) = 1 := by simp [leafN]
  rw [e1, e2, e3, e4, e5, e6]
  rw [e6] at hn
  have CX := Lib.hid (mone_any hd HBL2.out st hok1 (by omega))
  unfold W4.val at CX
  have q1 : W2.cell? ⟨w.heap.size, 0, none⟩ = some (.int .i64 1) := rg_cell HX1.out
  have q2 : W2.cell? ⟨w.heap.size, 1, none⟩ = some (.int .u64 st.a) := rg_cell HX1.out
  have q3 : W2.cell? ⟨w.heap.size, 2, none⟩ = some (.int .u64 st.b) := rg_cell HX1.out
  have q4 : W2.cell? ⟨w.heap.size, 3, none⟩ = some (.int .u64 st.c) := rg_cell HX1.out
  have q5 : W2.cell? ⟨w.heap.size, 4, none⟩ = some (.int .u64 st.d) := rg_cell HX1.out
  clear e1 e2 e3 e4 e5 e6 hok1
  clear hx1 hx2 hb2 hW2 h _hk _hK hok hn
  go_enter Tryz.func37, Tryz.ntmps37
  go_upto_region 1 with fail
  rw [show ((1 : Nat) : Int) = 1 from rfl] at HW2
  rw [HW2.out]
  clear HW2
  go_wp2_with fail
  refine CX.out.mono ?_
  rintro e w7 ⟨gf, gl, rfl, hpc, hbl, hch⟩
  have HZ : Hid (PcZ w7 (w.heap.size + 1)) := Lib.hid (HX2.out.kept (hch.block _ (by omega) (own_lt hlt (by omega))))
  have z0 : w7.cell? ⟨w.heap.size + 1, 0, none⟩ = some (.bool false) := rg_cell HZ.out
  have f0 : w7.frozen? ⟨w.heap.size + 1, 0, none⟩ = false := rg_frozen HZ.out
  have z1 : w7.cell? ⟨w.heap.size + 1, 1, none⟩ = some (.bool false) := rg_cell HZ.out
  have f1 : w7.frozen? ⟨w.heap.size + 1, 1, none⟩ = false := rg_frozen HZ.out
  have z2 : w7.cell? ⟨w.heap.size + 1, 2, none⟩ = some (.bool false) := rg_cell HZ.out
  have f2 : w7.frozen? ⟨w.heap.size + 1, 2, none⟩ = false := rg_frozen HZ.out
  have z3 : w7.cell? ⟨w.heap.size + 1, 3, none⟩ = some (.bool false) := rg_cell HZ.out
  have f3 : w7.frozen? ⟨w.heap.size + 1, 3, none⟩ = false := rg_frozen HZ.out
  have z4 : w7.cell? ⟨w.heap.size + 1, 4, none⟩ = some (.int .i64 0) := rg_cell HZ.out
  have f4 : w7.frozen? ⟨w.heap.size + 1, 4, none⟩ = false := rg_frozen HZ.out
  have z5 : w7.cell? ⟨w.heap.size + 1, 5, none⟩ = some (.slice none 0 0) := rg_cell HZ.out
  have f5 : w7.frozen? ⟨w.heap.size + 1, 5, none⟩ = false := rg_frozen HZ.out
  have z6 : w7.cell? ⟨w.heap.size + 1, 6, none⟩ = some (.int .i64 0) := rg_cell HZ.out
  have f6 : w7.frozen? ⟨w.heap.size + 1, 6, none⟩ = false := rg_frozen HZ.out
  have z7 : w7.cell? ⟨w.heap.size + 1, 7, none⟩ = some (.slice none 0 0) := rg_cell HZ.out
  have f7 : w7.frozen? ⟨w.heap.size + 1, 7, none⟩ = false := rg_frozen HZ.out
  have HFIN := Lib.hid (pc_fin (r := w.heap.size + 1) (E := fun _ => false) HB2.out (by omega) (by omega) hpc hbl hch hlt hzl)
  clear hpc hbl hch HX1 HX2 HB2 HBL2
  unfold pcV
  go_wp2_with fail
  refine bodyPost_ret (v := pcV d.m (fun _ => false) gf gl) ?_ rfl ⟨gf, gl, rfl, HFIN.out⟩
  simp [results, Tryz.results37, go_sem, pcV, z0, z1, z2, z3, z4, z5, z6, z7]
set_option maxHeartbeats 8000000 in
set_option maxRecDepth 100000 in
theorem mpiece7 (op : Nat) (st : W4) (ks : List RT) (h1 : op = 7) {w : World} {d : Bd} {n : Nat} {T B : Nat → Nat → Prop} {K : Nat → Prop} {kp : Option Addr} (kc : Nat) (hd : d.ok) (h : Bl w d n T B) (_hk : KidsAt w K kp ks)
    (_hK : ∀ g, K g → g < w.heap.size → ¬ d.own g ∧ g ≠ d.p) (_hok : RT.Ok (.mk op st ks)) (_hn : n + leafN (.mk op st ks) ≤ d.L) (_hlen : ks.length ≤ 1000000) :
    Calls Tryz.prog 37 #[.pointer (some ⟨d.b, 0, none⟩), .agg #[.int .i64 (op : Int), .int .u64 st.a, .int .u64 st.b, .int .u64 st.c, .int .u64 st.d, .slice kp ks.length kc]] w
      (PcPost w d (n + leafN (.mk op st ks)) (fun c x => T c x ∨ Tks hasP (.mk op st ks) n x c) (fun r x => B r x ∨ Bhd (.mk op st ks) n r x) (emp (.mk op st ks)) (Fst (.mk op st ks) n) (Lst (.mk op st ks) n)) := by
  have hlt := h.lt
  have hzl := h.dz.lt
  have hdm := hd.m
  have hdL := hd.L
  obtain ⟨W2, hW2⟩ : ∃ W2, (w.alloc (.cells #[.int .i64 (op : Int), .int .u64 st.a, .int .u64 st.b, .int .u64 st.c, .int .u64 st.d, .slice kp ks.length kc] 45)).alloc (.cells #[.bool false, .bool false, .bool false, .bool false, .int .i64 0, .slice none 0 0, .int .i64 0, .slice none 0 0] 88) = W2 := ⟨_, rfl⟩
  have hb2 : Below w.heap.size w W2 := by rw [← hW2]; exact ((Below.refl _ _).alloc (Nat.le_refl _) _).alloc (by simp) _
  have hz2 : W2.heap.size = w.heap.size + 2 := by rw [← hW2]; simp
  have hx1 : W2.heap[w.heap.size]? = some (.cells #[.int .i64 (op : Int), .int .u64 st.a, .int .u64 st.b, .int .u64 st.c, .int .u64 st.d, .slice kp ks.length kc] 45 (0, 0)) := by rw [← hW2]; exact (Below.heap_alloc _ _ _ (by simp)).trans (mt_heap_new _ _)
  have hx2 : PcZ W2 (w.heap.size + 1) := by
    rw [← hW2]
    have := mt_heap_new (w.alloc (.cells #[.int .i64 (op : Int), .int .u64 st.a, .int .u64 st.b, .int .u64 st.c, .int .u64 st.d, .slice kp ks.length kc] 45)) (.cells #[.bool false, .bool false, .bool false, .bool false, .int .i64 0, .slice none 0 0, .int .i64 0, .slice none 0 0] 88)
    rw [World.size_alloc] at this
    exact this
  have HX1 := Lib.hid hx1
  have HX2 := Lib.hid hx2
  have HB2 := Lib.hid hb2
  have HW2 := Lib.hid hW2
  have HBL2 := Lib.hid (h.kept (fun k _ hl => hb2.block k hl))
  subst h1
  have e1 : emp (.mk 7 st ks) = fun k => k % 2 == 1 := by funext k; simp [emp]
  have e2 : Fst (.mk 7 st ks) n = fun _ _ => False := by funext k x; simp [Fst]
  have e3 : Lst (.mk 7 st ks) n = fun _ _ => False := by funext k x; simp [Lst]
  have e4 : (fun c x => T c x ∨ Tks hasP (.mk 7 st ks) n x c) = T := by funext c x; simp [Tks]
  have e5 : (fun r x => B r x ∨ Bhd (.mk 7 st ks) n r x) = B := by funext r x; simp [Bhd]
  have e6 : leafN (.mk 7 st ks) = 0 := by simp [leafN]
  rw [e1, e2, e3, e4, e5, e6]
  have CX : Hid (Calls Tryz.prog 74 #[.pointer (some ⟨d.b, 0, none⟩), .agg #[.bool false, .bool true, .bool false, .bool true]] W2 (PcPost W2 d n T B (fun k => k % 2 == 1) (fun _ _ => False) (fun _ _ => False))) := Lib.hid
    ((mnot_any hd HBL2.out (fun k => k % 2 == 1)).mono fun e w' ⟨gf, gl, q1, q2, q3⟩ => ⟨gf, gl, q1, q2, HBL2.out.next q3, Chg.of_below q3 (Nat.le_refl _)⟩)
  have q1 : W2.cell? ⟨w.heap.size, 0, none⟩ = some (.int .i64 7) := rg_cell HX1.out
  clear e1 e2 e3 e4 e5 e6
  clear hx1 hx2 hb2 hW2 h _hk _hK _hok _hn
  go_enter Tryz.func37, Tryz.ntmps37
  go_upto_region 1 with fail
  rw [show ((7 : Nat) : Int) = 7 from rfl] at HW2
  rw [HW2.out]
  clear HW2
  go_wp2_with fail
  refine CX.out.mono ?_
  rintro e w7 ⟨gf, gl, rfl, hpc, hbl, hch⟩
  have HZ : Hid (PcZ w7 (w.heap.size + 1)) := Lib.hid (HX2.out.kept (hch.block _ (by omega) (own_lt hlt (by omega))))
  have z0 : w7.cell? ⟨w.heap.size + 1, 0, none⟩ = some (.bool false) := rg_cell HZ.out
  have f0 : w7.frozen? ⟨w.heap.size + 1, 0, none⟩ = false := rg_frozen HZ.out
  have z1 : w7.cell? ⟨w.heap.size + 1, 1, none⟩ = some (.bool false) := rg_cell HZ.out
  have f1 : w7.frozen? ⟨w.heap.size + 1, 1, none⟩ = false := rg_frozen HZ.out
  have z2 : w7.cell? ⟨w.heap.size + 1, 2, none⟩ = some (.bool false) := rg_cell HZ.out
  have f2 : w7.frozen? ⟨w.heap.size + 1, 2, none⟩ = false := rg_frozen HZ.out
  have z3 : w7.cell? ⟨w.heap.size + 1, 3, none⟩ = some (.bool false) := rg_cell HZ.out
  have f3 : w7.frozen? ⟨w.heap.size + 1, 3, none⟩ = false := rg_frozen HZ.out
  have z4 : w7.cell? ⟨w.heap.size + 1, 4, none⟩ = some (.int .i64 0) := rg_cell HZ.out
  have f4 : w7.frozen? ⟨w.heap.size + 1, 4, none⟩ = false := rg_frozen HZ.out
  have z5 : w7.cell? ⟨w.heap.size + 1, 5, none⟩ = some (.slice none 0 0) := rg_cell HZ.out
  have f5 : w7.frozen? ⟨w.heap.size + 1, 5, none⟩ = false := rg_frozen HZ.out
  have z6 : w7.cell? ⟨w.heap.size + 1, 6, none⟩ = some (.int .i64 0) := rg_cell HZ.out
  have f6 : w7.frozen? ⟨w.heap.size + 1, 6, none⟩ = false := rg_frozen HZ.out
  have z7 : w7.cell? ⟨w.heap.size + 1, 7, none⟩ = some (.slice none 0 0) := rg_cell HZ.out
  have f7 : w7.frozen? ⟨w.heap.size + 1, 7, none⟩ = false := rg_frozen HZ.out
  have HFIN := Lib.hid (pc_fin (r := w.heap.size + 1) (E := fun k => k % 2 == 1) HB2.out (by omega) (by omega) hpc hbl hch hlt hzl)
  clear hpc hbl hch HX1 HX2 HB2 HBL2
  unfold pcV
  go_wp2_with fail
  refine bodyPost_ret (v := pcV d.m (fun k => k % 2 == 1) gf gl) ?_ rfl ⟨gf, gl, rfl, HFIN.out⟩
  simp [results, Tryz.results37, go_sem, pcV, z0, z1, z2, z3, z4, z5, z6, z7]
set_option maxHeartbeats 8000000 in
set_option maxRecDepth 100000 in
theorem mpiece8 (op : Nat) (st : W4) (ks : List RT) (h1 : op = 8) {w : World} {d : Bd} {n : Nat} {T B : Nat → Nat → Prop} {K : Nat → Prop} {kp : Option Addr} (kc : Nat) (hd : d.ok) (h : Bl w d n T B) (_hk : KidsAt w K kp ks)
    (_hK : ∀ g, K g → g < w.heap.size → ¬ d.own g ∧ g ≠ d.p) (_hok : RT.Ok (.mk op st ks)) (_hn : n + leafN (.mk op st ks) ≤ d.L) (_hlen : ks.length ≤ 1000000) :
    Calls Tryz.prog 37 #[.pointer (some ⟨d.b, 0, none⟩), .agg #[.int .i64 (op : Int), .int .u64 st.a, .int .u64 st.b, .int .u64 st.c, .int .u64 st.d, .slice kp ks.length kc]] w
      (PcPost w d (n + leafN (.mk op st ks)) (fun c x => T c x ∨ Tks hasP (.mk op st ks) n x c) (fun r x => B r x ∨ Bhd (.mk op st ks) n r x) (emp (.mk op st ks)) (Fst (.mk op st ks) n) (Lst (.mk op st ks) n)) := by
  have hlt := h.lt
  have hzl := h.dz.lt
  have hdm := hd.m
  have hdL := hd.L
  obtain ⟨W2, hW2⟩ : ∃ W2, (w.alloc (.cells #[.int .i64 (op : Int), .int .u64 st.a, .int .u64 st.b, .int .u64 st.c, .int .u64 st.d, .slice kp ks.length kc] 45)).alloc (.cells #[.bool false, .bool false, .bool false, .bool false, .int .i64 0, .slice none 0 0, .int .i64 0, .slice none 0 0] 88) = W2 := ⟨_, rfl⟩
  have hb2 : Below w.heap.size w W2 := by rw [← hW2]; exact ((Below.refl _ _).alloc (Nat.le_refl _) _).alloc (by simp) _
  have hz2 : W2.heap.size = w.heap.size + 2 := by rw [← hW2]; simp
  have hx1 : W2.heap[w.heap.size]? = some (.cells #[.int .i64 (op : Int), .int .u64 st.a, .int .u64 st.b, .int .u64 st.c, .int .u64 st.d, .slice kp ks.length kc] 45 (0, 0)) := by rw [← hW2]; exact (Below.heap_alloc _ _ _ (by simp)).trans (mt_heap_new _ _)
  have hx2 : PcZ W2 (w.heap.size + 1) := by
    rw [← hW2]
    have := mt_heap_new (w.alloc (.cells #[.int .i64 (op : Int), .int .u64 st.a, .int .u64 st.b, .int .u64 st.c, .int .u64 st.d, .slice kp ks.length kc] 45)) (.cells #[.bool false, .bool false, .bool false, .bool false, .int .i64 0, .slice none 0 0, .int .i64 0, .slice none 0 0] 88)
    rw [World.size_alloc] at this
    exact this
  have HX1 := Lib.hid hx1
  have HX2 := Lib.hid hx2
  have HB2 := Lib.hid hb2
  have HW2 := Lib.hid hW2
  have HBL2 := Lib.hid (h.kept (fun k _ hl => hb2.block k hl))
  subst h1
  have e1 : emp (.mk 8 st ks) = fun k => decide (2 ≤ k) := by funext k; simp [emp]
  have e2 : Fst (.mk 8 st ks) n = fun _ _ => False := by funext k x; simp [Fst]
  have e3 : Lst (.mk 8 st ks) n = fun _ _ => False := by funext k x; simp [Lst]
  have e4 : (fun c x => T c x ∨ Tks hasP (.mk 8 st ks) n x c) = T := by funext c x; simp [Tks]
  have e5 : (fun r x => B r x ∨ Bhd (.mk 8 st ks) n r x) = B := by funext r x; simp [Bhd]
  have e6 : leafN (.mk 8 st ks) = 0 := by simp [leafN]
  rw [e1, e2, e3, e4, e5, e6]
  have CX : Hid (Calls Tryz.prog 74 #[.pointer (some ⟨d.b, 0, none⟩), .agg #[.bool false, .bool false, .bool true, .bool true]] W2 (PcPost W2 d n T B (fun k => decide (2 ≤ k)) (fun _ _ => False) (fun _ _ => False))) := Lib.hid
    ((mnot_any hd HBL2.out (fun k => decide (2 ≤ k))).mono fun e w' ⟨gf, gl, q1, q2, q3⟩ => ⟨gf, gl, q1, q2, HBL2.out.next q3, Chg.of_below q3 (Nat.le_refl _)⟩)
  have q1 : W2.cell? ⟨w.heap.size, 0, none⟩ = some (.int .i64 8) := rg_cell HX1.out
  clear e1 e2 e3 e4 e5 e6
  clear hx1 hx2 hb2 hW2 h _hk _hK _hok _hn
  go_enter Tryz.func37, Tryz.ntmps37
  go_upto_region 1 with fail
  rw [show ((8 : Nat) : Int) = 8 from rfl] at HW2
  rw [HW2.out]
  clear HW2
  go_wp2_with fail
  refine CX.out.mono ?_
  rintro e w7 ⟨gf, gl, rfl, hpc, hbl, hch⟩
  have HZ : Hid (PcZ w7 (w.heap.size + 1)) := Lib.hid (HX2.out.kept (hch.block _ (by omega) (own_lt hlt (by omega))))
  have z0 : w7.cell? ⟨w.heap.size + 1, 0, none⟩ = some (.bool false) := rg_cell HZ.out
  have f0 : w7.frozen? ⟨w.heap.size + 1, 0, none⟩ = false := rg_frozen HZ.out
  have z1 : w7.cell? ⟨w.heap.size + 1, 1, none⟩ = some (.bool false) := rg_cell HZ.out
  have f1 : w7.frozen? ⟨w.heap.size + 1, 1, none⟩ = false := rg_frozen HZ.out
  have z2 : w7.cell? ⟨w.heap.size + 1, 2, none⟩ = some (.bool false) := rg_cell HZ.out
  have f2 : w7.frozen? ⟨w.heap.size + 1, 2, none⟩ = false := rg_frozen HZ.out
  have z3 : w7.cell? ⟨w.heap.size + 1, 3, none⟩ = some (.bool false) := rg_cell HZ.out
  have f3 : w7.frozen? ⟨w.heap.size + 1, 3, none⟩ = false := rg_frozen HZ.out
  have z4 : w7.cell? ⟨w.heap.size + 1, 4, none⟩ = some (.int .i64 0) := rg_cell HZ.out
  have f4 : w7.frozen? ⟨w.heap.size + 1, 4, none⟩ = false := rg_frozen HZ.out
  have z5 : w7.cell? ⟨w.heap.size + 1, 5, none⟩ = some (.slice none 0 0) := rg_cell HZ.out
  have f5 : w7.frozen? ⟨w.heap.size + 1, 5, none⟩ = false := rg_frozen HZ.out
  have z6 : w7.cell? ⟨w.heap.size + 1, 6, none⟩ = some (.int .i64 0) := rg_cell HZ.out
  have f6 : w7.frozen? ⟨w.heap.size + 1, 6, none⟩ = false := rg_frozen HZ.out
  have z7 : w7.cell? ⟨w.heap.size + 1, 7, none⟩ = some (.slice none 0 0) := rg_cell HZ.out
  have f7 : w7.frozen? ⟨w.heap.size + 1, 7, none⟩ = false := rg_frozen HZ.out
  have HFIN := Lib.hid (pc_fin (r := w.heap.size + 1) (E := fun k => decide (2 ≤ k)) HB2.out (by omega) (by omega) hpc hbl hch hlt hzl)
  clear hpc hbl hch HX1 HX2 HB2 HBL2
  unfold pcV
  go_wp2_with fail
  refine bodyPost_ret (v := pcV d.m (fun k => decide (2 ≤ k)) gf gl) ?_ rfl ⟨gf, gl, rfl, HFIN.out⟩
  simp [results, Tryz.results37, go_sem, pcV, z0, z1, z2, z3, z4, z5, z6, z7]
set_option maxHeartbeats 8000000 in
set_option maxRecDepth 100000 in
theorem mpiece3 (op : Nat) (st : W4) (ks : List RT) (hPC : ∀ t ∈ ks, PieceC t) (h1 : op = 3) {w : World} {d : Bd} {n : Nat} {T B : Nat → Nat → Prop} {K : Nat → Prop} {kp : Option Addr} (kc : Nat) (hd : d.ok) (h : Bl w d n T B) (hk : KidsAt w K kp ks)
    (hK : ∀ g, K g → g < w.heap.size → ¬ d.own g ∧ g ≠ d.p) (hok : RT.Ok (.mk op st ks)) (hn : n + leafN (.mk op st ks) ≤ d.L) (hlen : ks.length ≤ 1000000) :
    Calls Tryz.prog 37 #[.pointer (some ⟨d.b, 0, none⟩), .agg #[.int .i64 (op : Int), .int .u64 st.a, .int .u64 st.b, .int .u64 st.c, .int .u64 st.d, .slice kp ks.length kc]] w
      (PcPost w d (n + leafN (.mk op st ks)) (fun c x => T c x ∨ Tks hasP (.mk op st ks) n x c) (fun r x => B r x ∨ Bhd (.mk op st ks) n r x) (emp (.mk op st ks)) (Fst (.mk op st ks) n) (Lst (.mk op st ks) n)) := by
  have hlt := h.lt
  have hzl := h.dz.lt
  have hdm := hd.m
  have hdL := hd.L
  obtain ⟨W2, hW2⟩ : ∃ W2, (w.alloc (.cells #[.int .i64 (op : Int), .int .u64 st.a, .int .u64 st.b, .int .u64 st.c, .int .u64 st.d, .slice kp ks.length kc] 45)).alloc (.cells #[.bool false, .bool false, .bool false, .bool false, .int .i64 0, .slice none 0 0, .int .i64 0, .slice none 0 0] 88) = W2 := ⟨_, rfl⟩
  have hb2 : Below w.heap.size w W2 := by rw [← hW2]; exact ((Below.refl _ _).alloc (Nat.le_refl _) _).alloc (by simp) _
  have hz2 : W2.heap.size = w.heap.size + 2 := by rw [← hW2]; simp
  have hx1 : W2.heap[w.heap.size]? = some (.cells #[.int .i64 (op : Int), .int .u64 st.a, .int .u64 st.b, .int .u64 st.c, .int .u64 st.d, .slice kp ks.length kc] 45 (0, 0)) := by rw [← hW2]; exact (Below.heap_alloc _ _ _ (by simp)).trans (mt_heap_new _ _)
  have hx2 : PcZ W2 (w.heap.size + 1) := by
    rw [← hW2]
    have := mt_heap_new (w.alloc (.cells #[.int .i64 (op : Int), .int .u64 st.a, .int .u64 st.b, .int .u64 st.c, .int .u64 st.d, .slice kp ks.length kc] 45)) (.cells #[.bool false, .bool false, .bool false, .bool false, .int .i64 0, .slice none 0 0, .int .i64 0, .slice none 0 0] 88)
    rw [World.size_alloc] at this
    exact this
  have HX1 := Lib.hid hx1
  have HX2 := Lib.hid hx2
  have HB2 := Lib.hid hb2
  have HW2 := Lib.hid hW2
  have HBL2 := Lib.hid (h.kept (fun k _ hl => hb2.block k hl))
  subst h1
  have e1 : emp (.mk 3 st ks) = empA ks := by funext k; simp [emp]
  have e2 : Fst (.mk 3 st ks) n = FstA ks n := by funext k x; simp [Fst]
  have e3 : Lst (.mk 3 st ks) n = LstA ks n := by funext k x; simp [Lst]
  have e4 : (fun c x => T c x ∨ Tks hasP (.mk 3 st ks) n x c) = (fun c x => T c x ∨ TksL hasP ks n x c) := by funext c x; simp [Tks]
  have e5 : (fun r x => B r x ∨ Bhd (.mk 3 st ks) n r x) = (fun r x => B r x ∨ BhdA ks n r x) := by funext r x; simp [Bhd]
  have e6 : leafN (.mk 3 st ks) = leavesN ks := by simp [leafN]
  rw [e1, e2, e3, e4, e5, e6]
  rw [e6] at hn
  have hkk : KidsAt W2 (fun g => K g ∧ g < w.heap.size) kp ks := fun k t e => by
    obtain ⟨g, x, q1, q2, q3, q4, q5⟩ := hk k t e
    exact ⟨g, x, q1, ⟨q2, q3⟩, by omega, q4.kept (hb2.block g q3), q5.kept (fun g _ hl => hb2.block g hl) (fun g hg hl => ⟨hg, hl⟩)⟩
  have CX := Lib.hid (malt_any ks hPC kc hd HBL2.out hkk (fun g hg _ => hK g hg.1 hg.2) hok.2 hn hlen)
  have q1 : W2.cell? ⟨w.heap.size, 0, none⟩ = some (.int .i64 3) := rg_cell HX1.out
  have q2 : W2.cell? ⟨w.heap.size, 5, none⟩ = some (.slice kp ks.length kc) := rg_cell HX1.out
  clear e1 e2 e3 e4 e5 e6 hkk hPC
  clear hx1 hx2 hb2 hW2 h hk hK hok hn
  go_enter Tryz.func37, Tryz.ntmps37
  go_upto_region 1 with fail
  rw [show ((3 : Nat) : Int) = 3 from rfl] at HW2
  rw [HW2.out]
  clear HW2
  go_wp2_with fail
  refine CX.out.mono ?_
  rintro e w7 ⟨gf, gl, rfl, hpc, hbl, hch⟩
  have HZ : Hid (PcZ w7 (w.heap.size + 1)) := Lib.hid (HX2.out.kept (hch.block _ (by omega) (own_lt hlt (by omega))))
  have z0 : w7.cell? ⟨w.heap.size + 1, 0, none⟩ = some (.bool false) := rg_cell HZ.out
  have f0 : w7.frozen? ⟨w.heap.size + 1, 0, none⟩ = false := rg_frozen HZ.out
  have z1 : w7.cell? ⟨w.heap.size + 1, 1, none⟩ = some (.bool false) := rg_cell HZ.out
  have f1 : w7.frozen? ⟨w.heap.size + 1, 1, none⟩ = false := rg_frozen HZ.out
  have z2 : w7.cell? ⟨w.heap.size + 1, 2, none⟩ = some (.bool false) := rg_cell HZ.out
  have f2 : w7.frozen? ⟨w.heap.size + 1, 2, none⟩ = false := rg_frozen HZ.out
  have z3 : w7.cell? ⟨w.heap.size + 1, 3, none⟩ = some (.bool false) := rg_cell HZ.out
  have f3 : w7.frozen? ⟨w.heap.size + 1, 3, none⟩ = false := rg_frozen HZ.out
  have z4 : w7.cell? ⟨w.heap.size + 1, 4, none⟩ = some (.int .i64 0) := rg_cell HZ.out
  have f4 : w7.frozen? ⟨w.heap.size + 1, 4, none⟩ = false := rg_frozen HZ.out
  have z5 : w7.cell? ⟨w.heap.size + 1, 5, none⟩ = some (.slice none 0 0) := rg_cell HZ.out
  have f5 : w7.frozen? ⟨w.heap.size + 1, 5, none⟩ = false := rg_frozen HZ.out
  have z6 : w7.cell? ⟨w.heap.size + 1, 6, none⟩ = some (.int .i64 0) := rg_cell HZ.out
  have f6 : w7.frozen? ⟨w.heap.size + 1, 6, none⟩ = false := rg_frozen HZ.out
  have z7 : w7.cell? ⟨w.heap.size + 1, 7, none⟩ = some (.slice none 0 0) := rg_cell HZ.out
  have f7 : w7.frozen? ⟨w.heap.size + 1, 7, none⟩ = false := rg_frozen HZ.out
  have HFIN := Lib.hid (pc_fin (r := w.heap.size + 1) (E := empA ks) HB2.out (by omega) (by omega) hpc hbl hch hlt hzl)
  clear hpc hbl hch HX1 HX2 HB2 HBL2
  unfold pcV
  go_wp2_with fail
  refine bodyPost_ret (v := pcV d.m (empA ks) gf gl) ?_ rfl ⟨gf, gl, rfl, HFIN.out⟩
  simp [results, Tryz.results37, go_sem, pcV, z0, z1, z2, z3, z4, z5, z6, z7]
end Go.Proofs.YtmlpkimbcjkbkaaGreatDoor
