/-
  THE WALK of the law PackThings: whatever the bytes and the number, it returns true and writes to nothing that was there, where the library's table of powers of ten is as its text lays it.
-/
import Derived.Test.YtbebkchfmebcmaaDoorCur5
import Derived.Test.YtbebkchfmebcmaaDoorThingsI
import Derived.Test.YtbebkchfmebcmaaDoorAwake1
import Derived.Maps.OwnIn
import Derived.RangeFuncCalls
namespace Go.Proofs.YtbebkchfmebcmaaDoor
open Go.RowKit Go.Shelf
attribute [local go_sem] Oper.semAt_some

theorem things_call (s : ByteArray) (w : World) :
    Calls Tryd.prog 7 #[.string s] w fun e w' => ∃ bs, e = .returned (.func (.func 18) #[] #[.pointer (some ⟨bs, 0, none⟩)]) ∧ w.heap.size ≤ bs ∧ w'.cell? ⟨bs, 0, none⟩ = some (.string s) ∧ Below w.heap.size w w' := by
  go_enter Tryd.func7, Tryd.ntmps7
  go_wp2
  go_ret
  exact ⟨w.heap.size, rfl, Nat.le_refl _, by simp [go_sem], (Below.refl _ _).alloc (Nat.le_refl _) _⟩
theorem copn_any (s : ByteArray) (w : World) :
    Calls Tryd.prog 6 #[.string s] w fun e w' => e = .returned (cv s 0 0 0) ∧ Below w.heap.size w w' := by
  go_enter Tryd.func6, Tryd.ntmps6
  go_wp2
  refine bodyPost_ret (v := cv s 0 0 0) ?_ rfl ⟨rfl, (Below.refl _ _).alloc (Nat.le_refl _) _⟩
  simp [results, Tryd.results6, go_sem, cv]
theorem bytes_neT {a b : ByteArray} (h : ¬ a = b) : (a.toList == b.toList) = false := by
  rw [Lib.toList_data, Lib.toList_data]
  simpa using fun e => h (WideShapes.bytes_inj e)
theorem Came.cellT {C : Nat → Prop} {A B : World} (h : Came C A B) {a : Addr} (hk : a.block < A.heap.size) (hn : ¬ C a.block) : B.cell? a = A.cell? a := World.cell?_of_block (h.block _ hk hn)
theorem Came.alloc {C : Nat → Prop} {A B : World} (h : Came C A B) (o : Obj) : Came C A (B.alloc o) := h.trans (Came.of_below ((Below.refl _ B).alloc (Nat.le_refl _) o) (Nat.le_refl _)) (C' := C) (fun _ hk => .inl hk)
theorem Came.setCell {C : Nat → Prop} {A B : World} (h : Came C A B) {p : Addr} (hp : C p.block) (v : Value) : Came C A (B.setCell p v) :=
  h.trans ⟨rfl, rfl, rfl, Nat.le_of_eq (World.size_setCell _ _ _).symm, fun k _ hn => Below.heap_setCell B p v k (fun e => hn (e ▸ hp))⟩ (C' := C) (fun k hk => .inl hk)
/-- The law's own variables. -/
def CT (b c k : Nat) : Prop := k = b ∨ k = b + 1 ∨ k = b + 1 + 1 ∨ k = c ∨ k = c + 1 ∨ k = c + 1 + 1
structure Pt (W : World) (b c : Nat) (s : ByteArray) (most : Int) (i j n : Nat) : Prop where
  s0 : W.cell? ⟨b, 0, none⟩ = some (.string s)
  m0 : W.cell? ⟨b + 1, 0, none⟩ = some (.int .i64 most)
  r0 : W.cell? ⟨b + 1 + 1, 0, none⟩ = some (.bool false)
  rf : W.frozen? ⟨b + 1 + 1, 0, none⟩ = false
  cu : Cu W c s i j 0
  n0 : W.cell? ⟨c + 1, 0, none⟩ = some (.int .i64 n)
  nf : W.frozen? ⟨c + 1, 0, none⟩ = false
  o0 : W.cell? ⟨c + 1 + 1, 0, none⟩ = some (.bool true)
  of : W.frozen? ⟨c + 1 + 1, 0, none⟩ = false
theorem Cu.same {C : Nat → Prop} {A B : World} {b p q k : Nat} {s : ByteArray} (h : Cu A b s p q k) (hs : Same C A B) (hb : C b) : Cu B b s p q k :=
  ⟨(hs.cell (p := ⟨b, 0, none⟩) hb).trans h.c0, (hs.cell (p := ⟨b, 1, none⟩) hb).trans h.c1, (hs.cell (p := ⟨b, 2, none⟩) hb).trans h.c2, (hs.cell (p := ⟨b, 3, none⟩) hb).trans h.c3,
    (hs.frozen (p := ⟨b, 0, none⟩) hb).trans h.f0, (hs.frozen (p := ⟨b, 1, none⟩) hb).trans h.f1, (hs.frozen (p := ⟨b, 2, none⟩) hb).trans h.f2, (hs.frozen (p := ⟨b, 3, none⟩) hb).trans h.f3⟩
theorem Pt.same {A B : World} {b c i j n : Nat} {s : ByteArray} {most : Int} (h : Pt A b c s most i j n) (hs : Same (CT b c) A B) : Pt B b c s most i j n :=
  ⟨(hs.cell (p := ⟨b, 0, none⟩) (.inl rfl)).trans h.s0, (hs.cell (p := ⟨b + 1, 0, none⟩) (.inr (.inl rfl))).trans h.m0, (hs.cell (p := ⟨b + 1 + 1, 0, none⟩) (.inr (.inr (.inl rfl)))).trans h.r0, (hs.frozen (p := ⟨b + 1 + 1, 0, none⟩) (.inr (.inr (.inl rfl)))).trans h.rf,
    h.cu.same hs (.inr (.inr (.inr (.inl rfl)))), (hs.cell (p := ⟨c + 1, 0, none⟩) (.inr (.inr (.inr (.inr (.inl rfl)))))).trans h.n0, (hs.frozen (p := ⟨c + 1, 0, none⟩) (.inr (.inr (.inr (.inr (.inl rfl)))))).trans h.nf,
    (hs.cell (p := ⟨c + 1 + 1, 0, none⟩) (.inr (.inr (.inr (.inr (.inr rfl)))))).trans h.o0, (hs.frozen (p := ⟨c + 1 + 1, 0, none⟩) (.inr (.inr (.inr (.inr (.inr rfl)))))).trans h.of⟩
theorem Pt.below {A B : World} {b c i j n : Nat} {s : ByteArray} {most : Int} (h : Pt A b c s most i j n) (hb : Below A.heap.size A B) : Pt B b c s most i j n :=
  ⟨(hb.cell (p := ⟨b, 0, none⟩) (World.block_lt_of_cell? _ _ h.s0)).trans h.s0, (hb.cell (p := ⟨b + 1, 0, none⟩) (World.block_lt_of_cell? _ _ h.m0)).trans h.m0, (hb.cell (p := ⟨b + 1 + 1, 0, none⟩) (World.block_lt_of_cell? _ _ h.r0)).trans h.r0, (hb.frozen (p := ⟨b + 1 + 1, 0, none⟩) (World.block_lt_of_cell? _ _ h.r0)).trans h.rf,
    h.cu.below hb h.cu.lt, (hb.cell (p := ⟨c + 1, 0, none⟩) (World.block_lt_of_cell? _ _ h.n0)).trans h.n0, (hb.frozen (p := ⟨c + 1, 0, none⟩) (World.block_lt_of_cell? _ _ h.n0)).trans h.nf,
    (hb.cell (p := ⟨c + 1 + 1, 0, none⟩) (World.block_lt_of_cell? _ _ h.o0)).trans h.o0, (hb.frozen (p := ⟨c + 1 + 1, 0, none⟩) (World.block_lt_of_cell? _ _ h.o0)).trans h.of⟩
theorem pt_next {A : World} {b c i j n : Nat} {s : ByteArray} {most : Int} (h : Pt A b c s most i j n) (hbc : b + 1 + 1 < c) (p q : Nat) (o : Obj) :
    Pt (((((((A.setCell ⟨c + 1 + 1, 0, none⟩ (.bool true)).setCell ⟨c, 0, none⟩ (.string s)).setCell ⟨c, 1, none⟩ (.int .i64 p)).setCell ⟨c, 2, none⟩ (.int .i64 q)).setCell ⟨c, 3, none⟩ (.int .i64 0)).setCell ⟨c + 1, 0, none⟩ (.int .i64 ((n : Int) + 1))).alloc o) b c s most p q (n + 1) := by
  refine Pt.below ?_ ((Below.refl _ _).alloc (Nat.le_refl _) o)
  obtain ⟨s0, m0, r0, rf, cu, n0, nf, o0, of⟩ := h
  have far : ∀ k, k ≠ c → k ≠ c + 1 → k ≠ c + 1 + 1 → ((((((A.setCell ⟨c + 1 + 1, 0, none⟩ (.bool true)).setCell ⟨c, 0, none⟩ (.string s)).setCell ⟨c, 1, none⟩ (.int .i64 p)).setCell ⟨c, 2, none⟩ (.int .i64 q)).setCell ⟨c, 3, none⟩ (.int .i64 0)).setCell ⟨c + 1, 0, none⟩ (.int .i64 ((n : Int) + 1))).heap[k]? = A.heap[k]? := fun k e1 e2 e3 =>
    (Below.heap_setCell _ ⟨c + 1, 0, none⟩ _ k e2).trans ((Below.heap_setCell _ ⟨c, 3, none⟩ _ k e1).trans ((Below.heap_setCell _ ⟨c, 2, none⟩ _ k e1).trans ((Below.heap_setCell _ ⟨c, 1, none⟩ _ k e1).trans ((Below.heap_setCell _ ⟨c, 0, none⟩ _ k e1).trans (Below.heap_setCell A ⟨c + 1 + 1, 0, none⟩ _ k e3)))))
  have nc1 : c ≠ c + 1 := by omega
  have nc2 : c ≠ c + 1 + 1 := by omega
  have hcu : Cu (((((A.setCell ⟨c + 1 + 1, 0, none⟩ (.bool true)).setCell ⟨c, 0, none⟩ (.string s)).setCell ⟨c, 1, none⟩ (.int .i64 p)).setCell ⟨c, 2, none⟩ (.int .i64 q)).setCell ⟨c, 3, none⟩ (.int .i64 0)) c s p q 0 := by
    have h1 : Cu (A.setCell ⟨c + 1 + 1, 0, none⟩ (.bool true)) c s i j 0 := by
      obtain ⟨c0, c1, c2, c3, f0, f1, f2, f3⟩ := cu
      have e := Below.heap_setCell A ⟨c + 1 + 1, 0, none⟩ (.bool true) c nc2
      have ec (o : Nat) : (A.setCell ⟨c + 1 + 1, 0, none⟩ (.bool true)).cell? ⟨c, o, none⟩ = A.cell? ⟨c, o, none⟩ := World.cell?_of_block (w := A) (a := ⟨c, o, none⟩) e
      have ef (o : Nat) : (A.setCell ⟨c + 1 + 1, 0, none⟩ (.bool true)).frozen? ⟨c, o, none⟩ = A.frozen? ⟨c, o, none⟩ := World.frozen?_of_block (w := A) (a := ⟨c, o, none⟩) e
      exact ⟨(ec 0).trans c0, (ec 1).trans c1, (ec 2).trans c2, (ec 3).trans c3, (ef 0).trans f0, (ef 1).trans f1, (ef 2).trans f2, (ef 3).trans f3⟩
    exact Cu.put (s' := s) (p' := p) (q' := q) (k' := 0) h1
  refine ⟨(World.cell?_of_block (a := ⟨b, 0, none⟩) (far b (by omega) (by omega) (by omega))).trans s0, (World.cell?_of_block (a := ⟨b + 1, 0, none⟩) (far (b + 1) (by omega) (by omega) (by omega))).trans m0,
    (World.cell?_of_block (a := ⟨b + 1 + 1, 0, none⟩) (far (b + 1 + 1) (by omega) (by omega) (by omega))).trans r0, (World.frozen?_of_block (a := ⟨b + 1 + 1, 0, none⟩) (far (b + 1 + 1) (by omega) (by omega) (by omega))).trans rf, ?_, ?_, ?_, ?_, ?_⟩
  · obtain ⟨c0, c1, c2, c3, f0, f1, f2, f3⟩ := hcu
    have e := Below.heap_setCell (((((A.setCell ⟨c + 1 + 1, 0, none⟩ (.bool true)).setCell ⟨c, 0, none⟩ (.string s)).setCell ⟨c, 1, none⟩ (.int .i64 p)).setCell ⟨c, 2, none⟩ (.int .i64 q)).setCell ⟨c, 3, none⟩ (.int .i64 0)) ⟨c + 1, 0, none⟩ (.int .i64 ((n : Int) + 1)) c nc1
    have ec (o : Nat) := World.cell?_of_block (a := ⟨c, o, none⟩) e
    have ef (o : Nat) := World.frozen?_of_block (a := ⟨c, o, none⟩) e
    exact ⟨(ec 0).trans c0, (ec 1).trans c1, (ec 2).trans c2, (ec 3).trans c3, (ef 0).trans f0, (ef 1).trans f1, (ef 2).trans f2, (ef 3).trans f3⟩
  · refine World.cell?_setCell_same' _ _ _ ?_
    rw [World.cell?_of_block (w := A) (a := ⟨c + 1, 0, none⟩) (by
      show ((((((A.setCell ⟨c + 1 + 1, 0, none⟩ (.bool true)).setCell ⟨c, 0, none⟩ (.string s)).setCell ⟨c, 1, none⟩ (.int .i64 p)).setCell ⟨c, 2, none⟩ (.int .i64 q)).setCell ⟨c, 3, none⟩ (.int .i64 0))).heap[c + 1]? = A.heap[c + 1]?
      exact (Below.heap_setCell _ ⟨c, 3, none⟩ _ _ (by show c + 1 ≠ c; omega)).trans ((Below.heap_setCell _ ⟨c, 2, none⟩ _ _ (by show c + 1 ≠ c; omega)).trans ((Below.heap_setCell _ ⟨c, 1, none⟩ _ _ (by show c + 1 ≠ c; omega)).trans ((Below.heap_setCell _ ⟨c, 0, none⟩ _ _ (by show c + 1 ≠ c; omega)).trans (Below.heap_setCell A ⟨c + 1 + 1, 0, none⟩ _ _ (by show c + 1 ≠ c + 1 + 1; omega)))))), n0]
    rfl
  · simp only [World.frozen?_setCell]; exact nf
  · rw [World.cell?_of_block (a := ⟨c + 1 + 1, 0, none⟩) ((Below.heap_setCell _ ⟨c + 1, 0, none⟩ _ _ (by show c + 1 + 1 ≠ c + 1; omega)).trans ((Below.heap_setCell _ ⟨c, 3, none⟩ _ _ (by show c + 1 + 1 ≠ c; omega)).trans ((Below.heap_setCell _ ⟨c, 2, none⟩ _ _ (by show c + 1 + 1 ≠ c; omega)).trans ((Below.heap_setCell _ ⟨c, 1, none⟩ _ _ (by show c + 1 + 1 ≠ c; omega)).trans (Below.heap_setCell _ ⟨c, 0, none⟩ _ _ (by show c + 1 + 1 ≠ c; omega))))))]
    exact World.cell?_setCell_same' _ _ _ (by rw [o0]; rfl)
  · simp only [World.frozen?_setCell]; exact of
theorem rt_cell {A : World} {b c : Nat} {v : Value} (r0 : A.cell? ⟨b + 1 + 1, 0, none⟩ = some v) (hbc : b + 1 + 1 < c) {o : Obj} : (((A.setCell ⟨c + 1 + 1, 0, none⟩ (.bool false)).setCell ⟨b + 1 + 1, 0, none⟩ (.bool false)).alloc o).cell? ⟨b + 1 + 1, 0, none⟩ = some (.bool false) := by
  have hlt := World.block_lt_of_cell? _ _ r0
  rw [World.cell?_alloc_lt (h := by show b + 1 + 1 < _; simp only [World.size_setCell]; exact hlt)]
  refine World.cell?_setCell_same' _ _ _ ?_
  rw [World.cell?_of_block (w := A) (a := ⟨b + 1 + 1, 0, none⟩) (Below.heap_setCell A ⟨c + 1 + 1, 0, none⟩ _ _ (by show b + 1 + 1 ≠ c + 1 + 1; omega)), r0]
  rfl
/-- What has come: the things up to here. -/
def Cm (s : ByteArray) (pre : List (Nat × ByteArray)) (i j : Nat) : Prop := ∃ f, i ≤ s.size ∧ j ≤ 60 ∧ s.size - i < f ∧ pre.length ≤ i ∧ things s = pre ++ thL s f i j
theorem Cm.zero (s : ByteArray) : Cm s [] 0 0 := ⟨s.size + 1, by omega, by omega, by omega, by simp, rfl⟩
theorem Cm.next {s : ByteArray} {pre : List (Nat × ByteArray)} {i j : Nat} (h : Cm s pre i j) (hi : i < s.size) (he : (skS s (i, j, 0)).2.2 = 0) : Cm s (pre ++ [(i, s.extract i (skS s (i, j, 0)).1)]) (skS s (i, j, 0)).1 (skS s (i, j, 0)).2.1 := by
  obtain ⟨f, h1, h2, h3, h4, h5⟩ := h
  obtain ⟨k1, k2, k3⟩ := skS_keeps hi h2 he
  obtain ⟨f', rfl⟩ : ∃ f', f = f' + 1 := ⟨f - 1, by omega⟩
  rw [thL_more hi he] at h5
  exact ⟨f', k2, k3, by omega, by simp; omega, by rw [h5]; simp⟩
theorem Cm.head {s : ByteArray} {pre : List (Nat × ByteArray)} {i j : Nat} (h : Cm s pre i j) {x : Nat × ByteArray} (hx : pre ++ [x] <+: things s) : i < s.size ∧ (skS s (i, j, 0)).2.2 = 0 ∧ x = (i, s.extract i (skS s (i, j, 0)).1) := by
  obtain ⟨f, h1, h2, h3, h4, h5⟩ := h
  rw [h5] at hx
  have hx2 := (List.prefix_append_right_inj pre).1 hx
  by_cases hc : i < s.size ∧ (skS s (i, j, 0)).2.2 = 0
  · obtain ⟨f', rfl⟩ : ∃ f', f = f' + 1 := ⟨f - 1, by omega⟩
    rw [thL_more hc.1 hc.2] at hx2
    have := (List.cons_prefix_cons.1 hx2).1
    exact ⟨hc.1, hc.2, this⟩
  · rw [thL_stop hc] at hx2
    simp at hx2
theorem Cm.stop {s : ByteArray} {pre : List (Nat × ByteArray)} {i j : Nat} (h : Cm s pre i j) (hp : pre = things s) : i ≤ s.size ∧ j ≤ 60 ∧ (i = s.size ∨ (i < s.size ∧ (skS s (i, j, 0)).2.2 ≠ 0)) := by
  obtain ⟨f, h1, h2, h3, h4, h5⟩ := h
  refine ⟨h1, h2, ?_⟩
  by_cases hc : i < s.size ∧ (skS s (i, j, 0)).2.2 = 0
  · exfalso
    obtain ⟨f', rfl⟩ : ∃ f', f = f' + 1 := ⟨f - 1, by omega⟩
    rw [thL_more hc.1 hc.2, ← hp] at h5
    have := congrArg List.length h5
    simp at this
  · by_cases hi : i < s.size
    · exact .inr ⟨hi, fun e => hc ⟨hi, e⟩⟩
    · exact .inl (by omega)
set_option maxHeartbeats 1000000 in
theorem cskip_end (s : ByteArray) (j : Nat) (w : World) :
    Calls Tryd.prog 8 #[cv s s.size j 0] w fun e w' => e = .returned (cv s s.size j 2) ∧ Below w.heap.size w w' := by
  unfold cv
  go_enter Tryd.func8, Tryd.ntmps8
  go_wp2_with fail
  refine bodyPost_ret (v := cv s s.size j 2) ?_ rfl ⟨by simp [cv], two_cells _ _ _ _⟩
  simp [results, Tryd.results8, go_sem, cv]
set_option maxHeartbeats 4000000 in
set_option maxRecDepth 100000 in
theorem pthings_walk (s0 : ByteArray) (most : Int) (hs0 : s0.size ≤ maxLen) (w : World) (htab : Lib.TabBelow Tryd.prog w.heap.size w "internal/strconv.uint64pow10" .u64 Lib.pow10Tab) :
    Calls Tryd.prog 3 #[.string s0, .int .i64 most] w fun e w' => e = .returned (.bool true) ∧ Below w.heap.size w w' := by
  refine (callsIn_wide (n := 6)).1 ?_
  refine callsIn_of_wp_marks Tryd.func3 rfl trivial ?_ rfl
  simp only [Tryd.ntmps3, List.size_toArray, List.length_cons, List.length_nil, Nat.reduceAdd, Nat.reduceSub, Array.replicate_succ, Array.replicate_zero, List.push_toArray, List.append_toArray, List.nil_append, List.cons_append]
  have t1 : Fence.wide.fn 4 := trivial
  have t2 : Fence.wide.fn 5 := trivial
  have t3 : Fence.wide.fn 7 := trivial
  have t4 : Fence.wide.fn 6 := trivial
  have t5 : Fence.wide.fn 8 := trivial
  have HTAB := Lib.hid htab
  have CUT := Lib.hid (fun w => cut_any s0 600 w hs0 (by omega))
  have lc := cutB_size s0 600
  clear htab hs0
  have hba : Below w.heap.size w (((w.alloc (.cells #[.string s0] 9)).alloc (.cells #[.int .i64 most] 3)).alloc (.cells #[.bool false] 4)) := (((Below.refl _ _).alloc (Nat.le_refl _) _).alloc (by simp) _).alloc (by simp; omega) _
  have HBA := Lib.hid hba
  clear hba
  gi_wp2_with fail
  refine (callsIn_wide.2 (awake_any _ (tab_at HTAB.out HBA.out HBA.out.size))).mono ?_
  rintro e w1 ⟨rfl, hb1⟩
  have HB1 := Lib.hid (HBA.out.trans (hb1.mono HBA.out.size))
  have k1 : w1.cell? ⟨w.heap.size, 0, none⟩ = some (.string s0) := (hb1.cell (p := ⟨w.heap.size, 0, none⟩) (by simp; omega)).trans (by simp [go_sem])
  have k2 : w1.cell? ⟨w.heap.size + 1, 0, none⟩ = some (.int .i64 most) := (hb1.cell (p := ⟨w.heap.size + 1, 0, none⟩) (by simp)).trans (by simp [go_sem])
  have k3 : w1.cell? ⟨w.heap.size + 1 + 1, 0, none⟩ = some (.bool false) := (hb1.cell (p := ⟨w.heap.size + 1 + 1, 0, none⟩) (by simp)).trans (by simp [go_sem])
  have f1 : w1.frozen? ⟨w.heap.size, 0, none⟩ = false := (hb1.frozen (p := ⟨w.heap.size, 0, none⟩) (by simp; omega)).trans (by simp [go_sem])
  have f3 : w1.frozen? ⟨w.heap.size + 1 + 1, 0, none⟩ = false := (hb1.frozen (p := ⟨w.heap.size + 1 + 1, 0, none⟩) (by simp)).trans (by simp [go_sem])
  have hz1 : w.heap.size + 1 + 1 < w1.heap.size := World.block_lt_of_cell? _ _ k3
  clear hb1 HBA
  gi_wp2_with fail
  refine (callsIn_wide.2 (CUT.out _)).mono ?_
  rintro e w2 ⟨rfl, rfl⟩
  clear CUT
  generalize cutB s0 600 = s at *
  gi_wp2_with fail
  refine (callsIn_wide.2 (copn_any s _)).mono ?_
  rintro e w3 ⟨rfl, hb3⟩
  have hb3' : Below w1.heap.size (w1.setCell ⟨w.heap.size, 0, none⟩ (.string s)) w3 := by rw [World.size_setCell] at hb3; exact hb3
  have HB3 := Lib.hid ((HB1.out.setCell (p := ⟨w.heap.size, 0, none⟩) (Nat.le_refl _) (.string s)).trans (hb3'.mono HB1.out.size))
  have j1 : w3.cell? ⟨w.heap.size, 0, none⟩ = some (.string s) := (hb3'.cell (p := ⟨w.heap.size, 0, none⟩) (by show w.heap.size < _; omega)).trans (by simp [go_sem, k1])
  have j2 : w3.cell? ⟨w.heap.size + 1, 0, none⟩ = some (.int .i64 most) := (hb3'.cell (p := ⟨w.heap.size + 1, 0, none⟩) (by show w.heap.size + 1 < _; omega)).trans (by simp [go_sem, k2])
  have j3 : w3.cell? ⟨w.heap.size + 1 + 1, 0, none⟩ = some (.bool false) := (hb3'.cell (p := ⟨w.heap.size + 1 + 1, 0, none⟩) (by show w.heap.size + 1 + 1 < _; omega)).trans (by simp [go_sem, k3])
  have g3 : w3.frozen? ⟨w.heap.size + 1 + 1, 0, none⟩ = false := (hb3'.frozen (p := ⟨w.heap.size + 1 + 1, 0, none⟩) (by show w.heap.size + 1 + 1 < _; omega)).trans (by simp [go_sem, f3])
  have hz3 : w.heap.size + 1 + 1 < w3.heap.size := World.block_lt_of_cell? _ _ j3
  clear k1 k2 k3 f1 f3 hb3 hb3' HB1 hz1
  have hlt1 : w.heap.size < w3.heap.size := by omega
  have hlt1a : w.heap.size < w3.heap.size + 1 := by omega
  have hlt1b : w.heap.size < w3.heap.size + 1 + 1 := by omega
  unfold cv
  gi_wp2_with fail
  obtain ⟨W4, hW4⟩ : ∃ W4, W4 = ((w3.alloc (.cells #[.string s, .int .i64 0, .int .i64 0, .int .i64 0] 25)).alloc (.cells #[.int .i64 0] 3)).alloc (.cells #[.bool true] 4) := ⟨_, rfl⟩
  have hb4 : Below w3.heap.size w3 W4 := by rw [hW4]; exact (((Below.refl _ _).alloc (Nat.le_refl _) _).alloc (by simp) _).alloc (by simp; omega) _
  have hz4 : W4.heap.size = w3.heap.size + 3 := by rw [hW4]; simp
  have pt4 : Pt W4 w.heap.size w3.heap.size s most 0 0 0 := by
    have hlt2 : w.heap.size + 1 < w3.heap.size := by omega
    refine ⟨(hb4.cell (p := ⟨w.heap.size, 0, none⟩) hlt1).trans j1, (hb4.cell (p := ⟨w.heap.size + 1, 0, none⟩) hlt2).trans j2, (hb4.cell (p := ⟨w.heap.size + 1 + 1, 0, none⟩) hz3).trans j3, (hb4.frozen (p := ⟨w.heap.size + 1 + 1, 0, none⟩) hz3).trans g3, ?_, ?_, ?_, ?_, ?_⟩
    · rw [hW4]
      exact ⟨by simp [go_sem], by simp [go_sem], by simp [go_sem], by simp [go_sem], by simp [go_sem], by simp [go_sem], by simp [go_sem], by simp [go_sem]⟩
    · rw [hW4]; simp [go_sem]
    · rw [hW4]; simp [go_sem]
    · rw [hW4]; simp [go_sem]
    · rw [hW4]; simp [go_sem]
  rw [← hW4]
  have HB4 := Lib.hid (HB3.out.trans (hb4.mono HB3.out.size))
  clear hb4 hW4 j1 j2 j3 g3 HB3
  refine (callsIn_wide.2 (things_call s W4)).mono ?_
  rintro e w5 ⟨bs, rfl, hbs0, hbs1, hb5⟩
  have pt5 := pt4.below hb5
  have HB5 := Lib.hid (HB4.out.trans (hb5.mono HB4.out.size))
  have hz5 : W4.heap.size ≤ w5.heap.size := hb5.size
  have hbs5 : bs < w5.heap.size := World.block_lt_of_cell? _ _ hbs1
  generalize hcb : w3.heap.size = c at *
  clear hb5 pt4 HB4
  gi_wp2_with fail
  have HCz : Hid (∀ k, CT w.heap.size c k → k < c + 3 ∧ w.heap.size ≤ k) := Lib.hid (fun k hk => by unfold CT at hk; omega)
  refine wpIn_rangeC (F := Fence.wide) rfl (by omega) (gf := 18) (lb := #[.pointer (some ⟨bs, 0, none⟩)]) rfl trivial (enters_of Tryd.func18 (by kernel_rfl) rfl)
    (things_seq s (by omega) bs _ (by omega) w5 hbs1) (Below.refl _ _) (fun _ => rfl) (CT w.heap.size c) (fun k hk hc => by subst hk; have := (HCz.out _ hc).1; omega) (fun k hk => by subst hk; exact hbs5) (fun k hc => by have := (HCz.out _ hc).1; omega)
    (fun (pre : List (Nat × ByteArray)) C W => C = CT w.heap.size c ∧ ∃ i j, Pt W w.heap.size c s most i j pre.length ∧ Cm s pre i j)
    (fun cd pre C W => cd = .ret ∧ C = CT w.heap.size c ∧ ((¬ pre <+: things s) ∨ W.cell? ⟨w.heap.size + 1 + 1, 0, none⟩ = some (.bool true))) ?hI ?hIx ⟨rfl, 0, 0, pt5, Cm.zero s⟩ ?a1 ?assign ?body ?done ?stop
  case hI =>
    rintro pre C A B ⟨rfl, i, j, h1, h2⟩ hs
    exact ⟨rfl, i, j, h1.same hs, h2⟩
  case hIx =>
    rintro cd pre C A B ⟨h0, rfl, h1⟩ hs
    refine ⟨h0, rfl, h1.imp id (fun h => ?_)⟩
    exact (hs.cell (p := ⟨w.heap.size + 1 + 1, 0, none⟩) (.inr (.inr (.inl rfl)))).trans h
  case assign =>
    intro l' x W K hK
    gi_wp2
    exact hK
  case stop =>
    rintro D cd pre C W hpre ⟨rfl, rfl, h⟩ hcm hf rfl hD hsz
    rcases h with h | h
    · exact absurd hpre h
    · have HBW := hcm.below (n := w.heap.size) (by omega) (fun k hk => (HCz.out k hk).2)
      have HBF := HB5.out.trans HBW
      have hltR : w.heap.size + 1 + 1 < W.heap.size := World.block_lt_of_cell? _ _ h
      have cf : (W.putObj w5.heap.size (.deferred none)).cell? ⟨w.heap.size + 1 + 1, 0, none⟩ = some (.bool true) := by
        rw [← h]
        exact World.cell?_of_block (a := ⟨w.heap.size + 1 + 1, 0, none⟩) (World.putObj_heap_other (by show w.heap.size + 1 + 1 ≠ _; omega))
      have bf : Below w.heap.size w (W.putObj w5.heap.size (.deferred none)) :=
        ⟨HBF.os, HBF.tape, HBF.output, by simp only [World.putObj_size]; exact HBF.size, fun k hk => (World.putObj_heap_other (by omega)).trans (HBF.block k hk)⟩
      clear HBW HBF hcm hf
      gi_wp2
      refine ⟨by simp, .inl ⟨_, _, rfl, run_takeDeferred hD, ?_⟩⟩
      refine ⟨.bool true, ?_, rfl, bf⟩
      simp [results, Tryd.results3, go_sem, cf]
  case done =>
    rintro D xs C6 w6 hS ⟨rfl, i, j, hpt, hcm'⟩ hcm hf rfl hD hsz
    obtain ⟨hi, hj, hend⟩ := hcm'.stop hS
    have HBW := hcm.below (n := w.heap.size) (by omega) (fun k hk => (HCz.out k hk).2)
    have HB6 := Lib.hid (HB5.out.trans HBW)
    have HD := Lib.hid hD
    have hltR : w.heap.size + 1 + 1 < w6.heap.size := World.block_lt_of_cell? _ _ hpt.r0
    clear HBW hcm hf hcm' hS hD
    gi_wp2_with fail
    refine (callsIn_wide.2 (awake_any _ (tab_at HTAB.out HB6.out HB6.out.size))).mono ?_
    rintro e w7 ⟨rfl, hb7⟩
    have pt7 := hpt.below hb7
    have HB7 := Lib.hid (HB6.out.trans (hb7.mono HB6.out.size))
    have HD7 := Lib.hid ((hb7.block w5.heap.size (by omega)).trans HD.out)
    have hz7 : w6.heap.size ≤ w7.heap.size := hb7.size
    clear hb7 hpt HD HB6
    rcases hend with rfl | ⟨hlt, hne⟩
    · obtain ⟨s0', m0, r0, rf, ⟨c0, c1, c2, c3, f0, f1, f2, f3⟩, n0, nf, o0, of⟩ := pt7
      gi_wp2
      obtain ⟨Wz, hWz⟩ : ∃ Wz, Wz = w7.setCell ⟨w.heap.size + 1 + 1, 0, none⟩ (.bool true) := ⟨_, rfl⟩
      have eo : Wz.heap[w5.heap.size]? = w7.heap[w5.heap.size]? := by rw [hWz]; exact Below.heap_setCell w7 ⟨w.heap.size + 1 + 1, 0, none⟩ _ _ (by show w5.heap.size ≠ w.heap.size + 1 + 1; omega)
      have crz : Wz.cell? ⟨w.heap.size + 1 + 1, 0, none⟩ = some (.bool true) := by rw [hWz]; exact World.cell?_setCell_same' _ _ _ (by rw [r0]; rfl)
      have hbz : Below w.heap.size w Wz := by rw [hWz]; exact HB7.out.setCell (p := ⟨w.heap.size + 1 + 1, 0, none⟩) (by show w.heap.size ≤ w.heap.size + 1 + 1; omega) _
      rw [← hWz]
      have F1 : Wz.heap[w5.heap.size]? = some (.deferred (some [])) := eo.trans HD7.out
      have cf : (Wz.putObj w5.heap.size (.deferred none)).cell? ⟨w.heap.size + 1 + 1, 0, none⟩ = some (.bool true) := by
        rw [← crz]
        exact World.cell?_of_block (a := ⟨w.heap.size + 1 + 1, 0, none⟩) (World.putObj_heap_other (by show w.heap.size + 1 + 1 ≠ _; omega))
      have bf : Below w.heap.size w (Wz.putObj w5.heap.size (.deferred none)) :=
        ⟨hbz.os, hbz.tape, hbz.output, by simp only [World.putObj_size]; exact hbz.size, fun k hk => (World.putObj_heap_other (by omega)).trans (hbz.block k hk)⟩
      clear hWz eo
      refine ⟨by simp, .inl ⟨_, _, rfl, run_takeDeferred F1, ?_⟩⟩
      refine ⟨.bool true, ?_, rfl, bf⟩
      simp [results, Tryd.results3, go_sem, cf]
    · have SK := Lib.hid (fun w => cskip_all s (by omega) (2 * s.size + 2) (2 * s.size + 2) (Nat.le_refl _) i j w hlt hj (by unfold needS; rw [if_neg (by omega)]; omega))
      have HNE := Lib.hid hne
      have q1 : ((i : Int) == (s.size : Int)) = false := by rw [beq_eq_false_iff_ne]; omega
      have q2 : decide ((i : Int) = (s.size : Int)) = false := decide_eq_false (by omega)
      have q3 : (i == s.size) = false := by rw [beq_eq_false_iff_ne]; omega
      have q4 : decide (i = s.size) = false := decide_eq_false (by omega)
      clear hne
      have PT7 := Lib.hid pt7
      obtain ⟨s0', m0, r0, rf, ⟨c0, c1, c2, c3, f0, f1, f2, f3⟩, n0, nf, o0, of⟩ := pt7
      unfold cv at SK
      gi_wp2_with fail
      refine (callsIn_wide.2 (SK.out _)).mono ?_
      rintro e w8 ⟨⟨p, q, k, rfl, hp, hq, hs⟩, hb8⟩
      have hk0 : (k : Int) ≠ 0 := by
        rcases hs with ⟨rfl, e⟩ | ⟨h, _⟩
        · exfalso
          have := HNE.out
          unfold skS at this
          rw [e] at this
          exact this rfl
        · omega
      have k1 : ((k : Int) != 0) = true := by rw [bne_iff_ne]; exact hk0
      have k2 : ((k : Int) == 0) = false := by rw [beq_eq_false_iff_ne]; exact hk0
      have k3 : decide ((k : Int) = 0) = false := decide_eq_false hk0
      have hfd : ∀ w, (Instr.field 25 (.agg #[.string s, .int .i64 p, .int .i64 q, .int .i64 k]) 3).run Tryd.prog w = .ok (.int .i64 k) w := fun _ => by kernel_rfl
      have pt8 := PT7.out.below hb8
      have HB8 := Lib.hid (HB7.out.trans (hb8.mono HB7.out.size))
      have HD8 := Lib.hid ((hb8.block w5.heap.size (by omega)).trans HD7.out)
      have hz8 : w7.heap.size ≤ w8.heap.size := hb8.size
      clear hb8 PT7 HD7 HB7 hs s0' m0 r0 rf c0 c1 c2 c3 f0 f1 f2 f3 n0 nf o0 of
      obtain ⟨s0', m0, r0, rf, ⟨c0, c1, c2, c3, f0, f1, f2, f3⟩, n0, nf, o0, of⟩ := pt8
      gi_wp2
      obtain ⟨Wz, hWz⟩ : ∃ Wz, Wz = w8.setCell ⟨w.heap.size + 1 + 1, 0, none⟩ (.bool true) := ⟨_, rfl⟩
      have eo : Wz.heap[w5.heap.size]? = w8.heap[w5.heap.size]? := by rw [hWz]; exact Below.heap_setCell w8 ⟨w.heap.size + 1 + 1, 0, none⟩ _ _ (by show w5.heap.size ≠ w.heap.size + 1 + 1; omega)
      have crz : Wz.cell? ⟨w.heap.size + 1 + 1, 0, none⟩ = some (.bool true) := by rw [hWz]; exact World.cell?_setCell_same' _ _ _ (by rw [r0]; rfl)
      have hbz : Below w.heap.size w Wz := by rw [hWz]; exact HB8.out.setCell (p := ⟨w.heap.size + 1 + 1, 0, none⟩) (by show w.heap.size ≤ w.heap.size + 1 + 1; omega) _
      rw [← hWz]
      have F1 : Wz.heap[w5.heap.size]? = some (.deferred (some [])) := eo.trans HD8.out
      have cf : (Wz.putObj w5.heap.size (.deferred none)).cell? ⟨w.heap.size + 1 + 1, 0, none⟩ = some (.bool true) := by
        rw [← crz]
        exact World.cell?_of_block (a := ⟨w.heap.size + 1 + 1, 0, none⟩) (World.putObj_heap_other (by show w.heap.size + 1 + 1 ≠ _; omega))
      have bf : Below w.heap.size w (Wz.putObj w5.heap.size (.deferred none)) :=
        ⟨hbz.os, hbz.tape, hbz.output, by simp only [World.putObj_size]; exact hbz.size, fun k hk => (World.putObj_heap_other (by omega)).trans (hbz.block k hk)⟩
      clear hWz eo
      refine ⟨by simp, .inl ⟨_, _, rfl, run_takeDeferred F1, ?_⟩⟩
      refine ⟨.bool true, ?_, rfl, bf⟩
      simp [results, Tryd.results3, go_sem, cf]
  case body =>
    rintro l' pre ⟨xa, xt⟩ C W ⟨rfl, i, j, hpt, hcm'⟩ hcm hf hlen
    have hWz : w5.heap.size ≤ W.heap.size := hcm.size
    have HBW := Lib.hid (HB5.out.trans (hcm.below (n := w.heap.size) (by omega) (fun k hk => (HCz.out k hk).2)))
    have HCm := Lib.hid hcm'
    have HPT := Lib.hid hpt
    have hCW : c + 3 ≤ W.heap.size := by omega
    have hltR : w.heap.size + 1 + 1 < W.heap.size := World.block_lt_of_cell? _ _ hpt.r0
    have hcw : c + 1 + 1 < W.heap.size := by omega
    have hRc : w.heap.size + 1 + 1 < c := by omega
    obtain ⟨_, hi, hj, _, hpl, _⟩ := hcm'
    have HRET : Hid (∀ (v : Value) (W' : World), Came (CT w.heap.size c) W W' → W'.cell? ⟨w.heap.size + 1 + 1, 0, none⟩ = some v → ((¬ pre ++ [(xa, xt)] <+: things s) ∨ v = .bool true) →
        ownPostC (fun (pre : List (Nat × ByteArray)) C W => C = CT w.heap.size c ∧ ∃ i j, Pt W w.heap.size c s most i j pre.length ∧ Cm s pre i j)
          (fun cd pre C W => cd = .ret ∧ C = CT w.heap.size c ∧ ((¬ pre <+: things s) ∨ W.cell? ⟨w.heap.size + 1 + 1, 0, none⟩ = some (.bool true))) (CT w.heap.size c) (pre ++ [(xa, xt)]) W .ret { tmps := #[], defers := [] } W') := Lib.hid (fun v W' hC hv h =>
      ⟨_, fun k hk => Or.inl hk, fun k hk => Nat.lt_of_lt_of_le (by have := (HCz.out k hk).1; omega) hC.size, hC, rfl, rfl, h.imp id (fun e => by rw [hv, e])⟩)
    clear hcm hf hlen
    by_cases hmo : 0 ≤ most ∧ most ≤ (pre.length : Int)
    · obtain ⟨m1, m2⟩ := hmo
      have mm1 : decide ((0 : Int) ≤ most) = true := decide_eq_true m1
      have mm2 : decide (most ≤ (pre.length : Int)) = true := decide_eq_true m2
      obtain ⟨s0', m0, r0, rf, ⟨c0, c1, c2, c3, f0, f1, f2, f3⟩, n0, nf, o0, of⟩ := hpt
      gi_wp2_with fail
      refine (CallsIn.inRound l' (callsIn_wide.2 (awake_any _ (tab_at HTAB.out HBW.out HBW.out.size)))).mono ?_
      rintro e w6 ⟨rfl, hb6⟩
      have pt6 := HPT.out.below hb6
      have hz6 : W.heap.size ≤ w6.heap.size := hb6.size
      have HCA : Hid (Came (CT w.heap.size c) W w6) := Lib.hid (Came.of_below hb6 (Nat.le_refl _))
      clear hb6 s0' m0 r0 rf c0 c1 c2 c3 f0 f1 f2 f3 n0 nf o0 of
      obtain ⟨s0', m0, r0, rf, ⟨c0, c1, c2, c3, f0, f1, f2, f3⟩, n0, nf, o0, of⟩ := pt6
      have HH := Lib.hid (HRET.out (.bool true) (w6.setCell ⟨w.heap.size + 1 + 1, 0, none⟩ (.bool true)) (HCA.out.trans ⟨rfl, rfl, rfl, Nat.le_of_eq (World.size_setCell _ _ _).symm, fun k _ hn => Below.heap_setCell w6 ⟨w.heap.size + 1 + 1, 0, none⟩ _ k (fun e => hn (.inr (.inr (.inl e))))⟩ (fun k hk => .inl hk)) (World.cell?_setCell_same' _ _ _ (by rw [r0]; rfl)) (.inr rfl))
      gi_wp2
      exact HH.out
    · have mm : decide ((0 : Int) ≤ most) = false ∨ (decide ((0 : Int) ≤ most) = true ∧ decide (most ≤ (pre.length : Int)) = false) := by
        by_cases h : 0 ≤ most
        · exact .inr ⟨decide_eq_true h, decide_eq_false (fun e => hmo ⟨h, e⟩)⟩
        · exact .inl (decide_eq_false h)
      clear hmo
      rcases mm with mm1 | ⟨mm1, mm2⟩
      all_goals
        by_cases hlt : i < s.size
        · have SK := Lib.hid (fun w => cskip_all s (by omega) (2 * s.size + 2) (2 * s.size + 2) (Nat.le_refl _) i j w hlt hj (by unfold needS; rw [if_neg (by omega)]; omega))
          obtain ⟨s0', m0, r0, rf, ⟨c0, c1, c2, c3, f0, f1, f2, f3⟩, n0, nf, o0, of⟩ := hpt
          unfold cv at SK
          gi_wp2_with fail
          refine (CallsIn.inRound l' (callsIn_wide.2 (SK.out _))).mono ?_
          rintro e w6 ⟨⟨p, q, k, rfl, hp, hq, hs⟩, hb6⟩
          have hz6 : W.heap.size ≤ w6.heap.size := hb6.size
          have pt6 := HPT.out.below hb6
          have HCA : Hid (Came (CT w.heap.size c) W w6) := Lib.hid (Came.of_below hb6 (Nat.le_refl _))
          have l1 : w.heap.size < w6.heap.size := by omega
          have l2 : w.heap.size + 1 + 1 < w6.heap.size := by omega
          have l3 : c < w6.heap.size := by omega
          have l4 : c + 1 < w6.heap.size := by omega
          have l5 : c + 1 + 1 < w6.heap.size := by omega
          clear hb6 s0' m0 r0 rf c0 c1 c2 c3 f0 f1 f2 f3 n0 nf o0 of SK
          have PT6 := Lib.hid pt6
          obtain ⟨s0', m0, r0, rf, ⟨c0, c1, c2, c3, f0, f1, f2, f3⟩, n0, nf, o0, of⟩ := pt6
          by_cases hk : k = 0
          · subst hk
            have hS : skS s (i, j, 0) = (p, q, 0) := by
              rcases hs with ⟨_, e⟩ | ⟨e, _⟩
              · exact e
              · exact absurd rfl e
            have hE : (skS s (i, j, 0)).2.2 = 0 := by rw [hS]
            have hkp := skS_keeps hlt hj hE
            have hnx := HCm.out.next hlt hE
            rw [hS] at hkp hnx
            simp only at hkp hnx
            have NX := Lib.hid hnx
            have HS := Lib.hid hS
            have z1 : min (p : Int) (s.size : Int) = (p : Int) := by omega
            have z2 : (i : Int) ≤ (p : Int) := by omega
            have z3 : (p : Int) ≤ (s.size : Int) := by omega
            have z4 : (0 : Int) ≤ (i : Int) := by omega
            clear hs hS hE hnx
            by_cases hxa : xa = i
            · by_cases hxt : xt = s.extract i p
              · subst hxa hxt
                gi_wp2
                have hcame := ((((((HCA.out.setCell (p := ⟨c + 1 + 1, 0, none⟩) (.inr (.inr (.inr (.inr (.inr rfl))))) (.bool true)).setCell (p := ⟨c, 0, none⟩) (.inr (.inr (.inr (.inl rfl)))) (.string s)).setCell (p := ⟨c, 1, none⟩) (.inr (.inr (.inr (.inl rfl)))) (.int .i64 p)).setCell (p := ⟨c, 2, none⟩) (.inr (.inr (.inr (.inl rfl)))) (.int .i64 q)).setCell (p := ⟨c, 3, none⟩) (.inr (.inr (.inr (.inl rfl)))) (.int .i64 0)).setCell (p := ⟨c + 1, 0, none⟩) (.inr (.inr (.inr (.inr (.inl rfl))))) (.int .i64 ((pre.length : Int) + 1))).alloc (.cells #[.string s, .int .i64 p, .int .i64 q, .int .i64 0] 25)
                refine ⟨CT w.heap.size c, fun k hk => Or.inl hk, fun k hk => Nat.lt_of_lt_of_le (by have := (HCz.out k hk).1; omega) hcame.size, hcame, rfl, p, q, ?_, NX.out⟩
                rw [List.length_append, List.length_singleton]
                exact pt_next PT6.out hRc p q _
              · have NP : Hid (¬ pre ++ [(xa, xt)] <+: things s) := Lib.hid (fun h => by
                  have := (HCm.out.head h).2.2
                  rw [HS.out] at this
                  exact hxt (by injection this))
                have hx2 := bytes_neT hxt
                subst hxa
                clear hxt
                gi_wp2
                refine HRET.out (.bool false) _ (((HCA.out.setCell (p := ⟨c + 1 + 1, 0, none⟩) (.inr (.inr (.inr (.inr (.inr rfl))))) (.bool false)).setCell (p := ⟨w.heap.size + 1 + 1, 0, none⟩) (.inr (.inr (.inl rfl))) (.bool false)).alloc _) ?_ (.inl NP.out)
                exact rt_cell r0 hRc
            · have NP : Hid (¬ pre ++ [(xa, xt)] <+: things s) := Lib.hid (fun h => by
                have := (HCm.out.head h).2.2
                exact hxa (by injection this))
              have q1 : ((xa : Int) == (i : Int)) = false := by rw [beq_eq_false_iff_ne]; omega
              have q2 : decide ((xa : Int) = (i : Int)) = false := decide_eq_false (by omega)
              have q3 : (xa == i) = false := by rw [beq_eq_false_iff_ne]; exact hxa
              have q4 : decide (xa = i) = false := decide_eq_false hxa
              clear hxa
              gi_wp2
              refine HRET.out (.bool false) _ (((HCA.out.setCell (p := ⟨c + 1 + 1, 0, none⟩) (.inr (.inr (.inr (.inr (.inr rfl))))) (.bool false)).setCell (p := ⟨w.heap.size + 1 + 1, 0, none⟩) (.inr (.inr (.inl rfl))) (.bool false)).alloc _) ?_ (.inl NP.out)
              exact rt_cell r0 hRc
          · have NP : Hid (¬ pre ++ [(xa, xt)] <+: things s) := Lib.hid (fun h => by
              have := (HCm.out.head h).2.1
              rcases hs with ⟨e, _⟩ | ⟨_, e⟩
              · exact hk e
              · exact e this)
            have q1 : ((k : Int) == 0) = false := by rw [beq_eq_false_iff_ne]; omega
            have q2 : decide ((k : Int) = 0) = false := decide_eq_false (by omega)
            clear hk hs
            gi_wp2
            refine HRET.out (.bool false) _ (((HCA.out.setCell (p := ⟨c + 1 + 1, 0, none⟩) (.inr (.inr (.inr (.inr (.inr rfl))))) (.bool false)).setCell (p := ⟨w.heap.size + 1 + 1, 0, none⟩) (.inr (.inr (.inl rfl))) (.bool false)).alloc _) ?_ (.inl NP.out)
            exact rt_cell r0 hRc
        · obtain rfl : i = s.size := by omega
          have NP : Hid (¬ pre ++ [(xa, xt)] <+: things s) := Lib.hid (fun h => hlt (HCm.out.head h).1)
          have SK := Lib.hid (fun w => cskip_end s j w)
          obtain ⟨s0', m0, r0, rf, ⟨c0, c1, c2, c3, f0, f1, f2, f3⟩, n0, nf, o0, of⟩ := hpt
          unfold cv at SK
          gi_wp2_with fail
          refine (CallsIn.inRound l' (callsIn_wide.2 (SK.out _))).mono ?_
          rintro e w6 ⟨rfl, hb6⟩
          have hz6 : W.heap.size ≤ w6.heap.size := hb6.size
          have pt6 := HPT.out.below hb6
          have HCA : Hid (Came (CT w.heap.size c) W w6) := Lib.hid (Came.of_below hb6 (Nat.le_refl _))
          have l1 : w.heap.size < w6.heap.size := by omega
          have l2 : w.heap.size + 1 + 1 < w6.heap.size := by omega
          have l3 : c < w6.heap.size := by omega
          have l4 : c + 1 < w6.heap.size := by omega
          have l5 : c + 1 + 1 < w6.heap.size := by omega
          clear hb6 s0' m0 r0 rf c0 c1 c2 c3 f0 f1 f2 f3 n0 nf o0 of SK
          obtain ⟨s0', m0, r0, rf, ⟨c0, c1, c2, c3, f0, f1, f2, f3⟩, n0, nf, o0, of⟩ := pt6
          gi_wp2
          refine HRET.out (.bool false) _ (((HCA.out.setCell (p := ⟨c + 1 + 1, 0, none⟩) (.inr (.inr (.inr (.inr (.inr rfl))))) (.bool false)).setCell (p := ⟨w.heap.size + 1 + 1, 0, none⟩) (.inr (.inr (.inl rfl))) (.bool false)).alloc _) ?_ (.inl NP.out)
          exact rt_cell r0 hRc
end Go.Proofs.YtbebkchfmebcmaaDoor
