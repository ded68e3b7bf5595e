/-
  THE WALK of scribelaw06.CellOrders: it returns true, and nothing that was there is written.
-/
import Derived.Test.YtajonlpohllheaaDoorCTurnsW
namespace Go.Proofs.YtajonlpohllheaaDoor
open Go.RowKit

/-- Three values in memory, in three blocks of the call's own. -/
structure Three (W w : World) (A B C : Nat) (x1 x2 x3 y1 y2 y3 z1 z2 z3 : Value) : Prop where
  a0 : w.cell? ⟨A, 0, none⟩ = some x1
  a1 : w.cell? ⟨A, 1, none⟩ = some x2
  a2 : w.cell? ⟨A, 2, none⟩ = some x3
  b0 : w.cell? ⟨B, 0, none⟩ = some y1
  b1 : w.cell? ⟨B, 1, none⟩ = some y2
  b2 : w.cell? ⟨B, 2, none⟩ = some y3
  c0 : w.cell? ⟨C, 0, none⟩ = some z1
  c1 : w.cell? ⟨C, 1, none⟩ = some z2
  c2 : w.cell? ⟨C, 2, none⟩ = some z3
  fa0 : w.frozen? ⟨A, 0, none⟩ = false
  fa1 : w.frozen? ⟨A, 1, none⟩ = false
  fa2 : w.frozen? ⟨A, 2, none⟩ = false
  fb0 : w.frozen? ⟨B, 0, none⟩ = false
  fb1 : w.frozen? ⟨B, 1, none⟩ = false
  fb2 : w.frozen? ⟨B, 2, none⟩ = false
  fc0 : w.frozen? ⟨C, 0, none⟩ = false
  fc1 : w.frozen? ⟨C, 1, none⟩ = false
  fc2 : w.frozen? ⟨C, 2, none⟩ = false
  bel : Below W.heap.size W w
theorem Three.keep {W w w3 : World} {A B C : Nat} {x1 x2 x3 y1 y2 y3 z1 z2 z3 : Value} (h : Three W w A B C x1 x2 x3 y1 y2 y3 z1 z2 z3) (hb : Below w.heap.size w w3) : Three W w3 A B C x1 x2 x3 y1 y2 y3 z1 z2 z3 := by
  have k : ∀ {c o : Nat} {x : Value}, w.cell? ⟨c, o, none⟩ = some x → w3.cell? ⟨c, o, none⟩ = some x := fun h => (hb.cell (p := ⟨_, _, none⟩) (World.block_lt_of_cell? _ _ h)).trans h
  have hA : A < w.heap.size := World.block_lt_of_cell? _ _ h.a0
  have hB : B < w.heap.size := World.block_lt_of_cell? _ _ h.b0
  have hC : C < w.heap.size := World.block_lt_of_cell? _ _ h.c0
  have f : ∀ {c o : Nat}, c < w.heap.size → w.frozen? ⟨c, o, none⟩ = false → w3.frozen? ⟨c, o, none⟩ = false := fun hc h => (hb.frozen (p := ⟨_, _, none⟩) hc).trans h
  exact ⟨k h.a0, k h.a1, k h.a2, k h.b0, k h.b1, k h.b2, k h.c0, k h.c1, k h.c2, f hA h.fa0, f hA h.fa1, f hA h.fa2, f hB h.fb0, f hB h.fb1, f hB h.fb2, f hC h.fc0, f hC h.fc1, f hC h.fc2, h.bel.trans (hb.mono h.bel.size)⟩
theorem Three.drew {W w : World} {A B C : Nat} {x1 x2 x3 y1 y2 y3 z1 z2 z3 : Value} (h : Three W w A B C x1 x2 x3 y1 y2 y3 z1 z2 z3) : Three W w.drew A B C x1 x2 x3 y1 y2 y3 z1 z2 z3 :=
  ⟨h.a0, h.a1, h.a2, h.b0, h.b1, h.b2, h.c0, h.c1, h.c2, h.fa0, h.fa1, h.fa2, h.fb0, h.fb1, h.fb2, h.fc0, h.fc1, h.fc2, h.bel.drew⟩
theorem set_three {W w : World} {A B C : Nat} {u1 u2 u3 v1 v2 v3 t1 t2 t3 : Value} (h : Three W w A B C u1 u2 u3 v1 v2 v3 t1 t2 t3) (hA : W.heap.size ≤ A) (hB : W.heap.size ≤ B) (hC : W.heap.size ≤ C) (hAB : A ≠ B) (hAC : A ≠ C) (hBC : B ≠ C) (x1 x2 x3 y1 y2 y3 z1 z2 z3 : Value) :
    Three W (((((((((w.setCell ⟨A, 0, none⟩ x1).setCell ⟨A, 1, none⟩ x2).setCell ⟨A, 2, none⟩ x3).setCell ⟨B, 0, none⟩ y1).setCell ⟨B, 1, none⟩ y2).setCell ⟨B, 2, none⟩ y3).setCell ⟨C, 0, none⟩ z1).setCell ⟨C, 1, none⟩ z2).setCell ⟨C, 2, none⟩ z3) A B C x1 x2 x3 y1 y2 y3 z1 z2 z3 := by
  have e1 := set3 ⟨h.a0, h.a1, h.a2⟩ x1 x2 x3
  have e2 := set3 (a := B) ⟨far3 hAB x1 x2 x3 h.b0, far3 hAB x1 x2 x3 h.b1, far3 hAB x1 x2 x3 h.b2⟩ y1 y2 y3
  have e3 := set3 (a := C) ⟨far3 hBC y1 y2 y3 (far3 hAC x1 x2 x3 h.c0), far3 hBC y1 y2 y3 (far3 hAC x1 x2 x3 h.c1), far3 hBC y1 y2 y3 (far3 hAC x1 x2 x3 h.c2)⟩ z1 z2 z3
  exact ⟨far3 (Ne.symm hAC) _ _ _ (far3 (Ne.symm hAB) _ _ _ e1.1), far3 (Ne.symm hAC) _ _ _ (far3 (Ne.symm hAB) _ _ _ e1.2.1), far3 (Ne.symm hAC) _ _ _ (far3 (Ne.symm hAB) _ _ _ e1.2.2), far3 (Ne.symm hBC) _ _ _ e2.1, far3 (Ne.symm hBC) _ _ _ e2.2.1, far3 (Ne.symm hBC) _ _ _ e2.2.2, e3.1, e3.2.1, e3.2.2, frz3 (frz3 (frz3 h.fa0)), frz3 (frz3 (frz3 h.fa1)), frz3 (frz3 (frz3 h.fa2)), frz3 (frz3 (frz3 h.fb0)), frz3 (frz3 (frz3 h.fb1)), frz3 (frz3 (frz3 h.fb2)), frz3 (frz3 (frz3 h.fc0)), frz3 (frz3 (frz3 h.fc1)), frz3 (frz3 (frz3 h.fc2)), bset3 (bset3 (bset3 h.bel hA _ _ _) hB _ _ _) hC _ _ _⟩
theorem keep9 {W w w3 : World} {A B C : Nat} {x1 x2 x3 y1 y2 y3 z1 z2 z3 : Value} (h : w.cell? ⟨A, 0, none⟩ = some x1 ∧ w.cell? ⟨A, 1, none⟩ = some x2 ∧ w.cell? ⟨A, 2, none⟩ = some x3 ∧ w.cell? ⟨B, 0, none⟩ = some y1 ∧ w.cell? ⟨B, 1, none⟩ = some y2 ∧ w.cell? ⟨B, 2, none⟩ = some y3 ∧ w.cell? ⟨C, 0, none⟩ = some z1 ∧ w.cell? ⟨C, 1, none⟩ = some z2 ∧ w.cell? ⟨C, 2, none⟩ = some z3 ∧ Below W.heap.size W w) (hb : Below w.heap.size w w3) :
    w3.cell? ⟨A, 0, none⟩ = some x1 ∧ w3.cell? ⟨A, 1, none⟩ = some x2 ∧ w3.cell? ⟨A, 2, none⟩ = some x3 ∧ w3.cell? ⟨B, 0, none⟩ = some y1 ∧ w3.cell? ⟨B, 1, none⟩ = some y2 ∧ w3.cell? ⟨B, 2, none⟩ = some y3 ∧ w3.cell? ⟨C, 0, none⟩ = some z1 ∧ w3.cell? ⟨C, 1, none⟩ = some z2 ∧ w3.cell? ⟨C, 2, none⟩ = some z3 ∧ Below W.heap.size W w3 := by
  have k : ∀ {c o : Nat} {x : Value}, w.cell? ⟨c, o, none⟩ = some x → w3.cell? ⟨c, o, none⟩ = some x := fun h => (hb.cell (p := ⟨_, _, none⟩) (World.block_lt_of_cell? _ _ h)).trans h
  obtain ⟨h1, h2, h3, h4, h5, h6, h7, h8, h9, h10⟩ := h
  exact ⟨k h1, k h2, k h3, k h4, k h5, k h6, k h7, k h8, k h9, h10.trans (hb.mono h10.size)⟩
theorem below9 {W w : World} {A B C : Nat} {x1 x2 x3 y1 y2 y3 z1 z2 z3 : Value} (h : w.cell? ⟨A, 0, none⟩ = some x1 ∧ w.cell? ⟨A, 1, none⟩ = some x2 ∧ w.cell? ⟨A, 2, none⟩ = some x3 ∧ w.cell? ⟨B, 0, none⟩ = some y1 ∧ w.cell? ⟨B, 1, none⟩ = some y2 ∧ w.cell? ⟨B, 2, none⟩ = some y3 ∧ w.cell? ⟨C, 0, none⟩ = some z1 ∧ w.cell? ⟨C, 1, none⟩ = some z2 ∧ w.cell? ⟨C, 2, none⟩ = some z3 ∧ Below W.heap.size W w) : Below W.heap.size W w := h.2.2.2.2.2.2.2.2.2
theorem draw9 {W w : World} {A B C : Nat} {x1 x2 x3 y1 y2 y3 z1 z2 z3 : Value} (h : w.cell? ⟨A, 0, none⟩ = some x1 ∧ w.cell? ⟨A, 1, none⟩ = some x2 ∧ w.cell? ⟨A, 2, none⟩ = some x3 ∧ w.cell? ⟨B, 0, none⟩ = some y1 ∧ w.cell? ⟨B, 1, none⟩ = some y2 ∧ w.cell? ⟨B, 2, none⟩ = some y3 ∧ w.cell? ⟨C, 0, none⟩ = some z1 ∧ w.cell? ⟨C, 1, none⟩ = some z2 ∧ w.cell? ⟨C, 2, none⟩ = some z3 ∧ Below W.heap.size W w) :
    w.drew.cell? ⟨A, 0, none⟩ = some x1 ∧ w.drew.cell? ⟨A, 1, none⟩ = some x2 ∧ w.drew.cell? ⟨A, 2, none⟩ = some x3 ∧ w.drew.cell? ⟨B, 0, none⟩ = some y1 ∧ w.drew.cell? ⟨B, 1, none⟩ = some y2 ∧ w.drew.cell? ⟨B, 2, none⟩ = some y3 ∧ w.drew.cell? ⟨C, 0, none⟩ = some z1 ∧ w.drew.cell? ⟨C, 1, none⟩ = some z2 ∧ w.drew.cell? ⟨C, 2, none⟩ = some z3 ∧ Below W.heap.size W w.drew := by
  obtain ⟨h1, h2, h3, h4, h5, h6, h7, h8, h9, h10⟩ := h
  exact ⟨h1, h2, h3, h4, h5, h6, h7, h8, h9, h10.drew⟩
set_option maxHeartbeats 8000000 in
set_option maxRecDepth 100000 in
theorem corders_in (k1 n1 k2 n2 k3 n3 : Int) (s01 s1 s02 s2 s03 s3 : ByteArray) (g1 g2 g3 : Bool) (c12 c23 c13 : Int) (w : World) (HG : Hid (Gl w)) (AW : Hid (∀ W, Gl W → Calls Tryd.prog 12 #[] W fun e w' => e = .returned (.bool true) ∧ Below W.heap.size W w'))
    (C1 : Hid (∀ W, Calls Tryd.prog 10 #[.agg #[.int .i64 k1, .int .i64 n1, .string s01]] W fun e w' => e = .returned (.agg #[.int .i64 k1, .int .i64 n1, .string s1]) ∧ Below W.heap.size W w'))
    (C2 : Hid (∀ W, Calls Tryd.prog 10 #[.agg #[.int .i64 k2, .int .i64 n2, .string s02]] W fun e w' => e = .returned (.agg #[.int .i64 k2, .int .i64 n2, .string s2]) ∧ Below W.heap.size W w'))
    (C3 : Hid (∀ W, Calls Tryd.prog 10 #[.agg #[.int .i64 k3, .int .i64 n3, .string s03]] W fun e w' => e = .returned (.agg #[.int .i64 k3, .int .i64 n3, .string s3]) ∧ Below W.heap.size W w'))
    (G1 : Hid (∀ W, Calls Tryd.prog 13 #[.agg #[.int .i64 k1, .int .i64 n1, .string s1]] W fun e w' => e = .returned (.bool g1) ∧ Below W.heap.size W w'))
    (G2 : Hid (∀ W, Calls Tryd.prog 13 #[.agg #[.int .i64 k2, .int .i64 n2, .string s2]] W fun e w' => e = .returned (.bool g2) ∧ Below W.heap.size W w'))
    (G3 : Hid (∀ W, Calls Tryd.prog 13 #[.agg #[.int .i64 k3, .int .i64 n3, .string s3]] W fun e w' => e = .returned (.bool g3) ∧ Below W.heap.size W w'))
    (P12 : (g1 && g2 && g3) = true → Hid (∀ W, Gl W → Calls Tryd.prog 21 #[.agg #[.int .i64 k1, .int .i64 n1, .string s1], .agg #[.int .i64 k2, .int .i64 n2, .string s2]] W fun e w' => e = .returned (.int .i64 c12) ∧ Below W.heap.size W w'))
    (P23 : (g1 && g2 && g3) = true → Hid (∀ W, Gl W → Calls Tryd.prog 21 #[.agg #[.int .i64 k2, .int .i64 n2, .string s2], .agg #[.int .i64 k3, .int .i64 n3, .string s3]] W fun e w' => e = .returned (.int .i64 c23) ∧ Below W.heap.size W w'))
    (P13 : (g1 && g2 && g3) = true → Hid (∀ W, Gl W → Calls Tryd.prog 21 #[.agg #[.int .i64 k1, .int .i64 n1, .string s1], .agg #[.int .i64 k3, .int .i64 n3, .string s3]] W fun e w' => e = .returned (.int .i64 c13) ∧ Below W.heap.size W w'))
    (hle : k1 = k2 → k2 = k3 → c12 ≤ 0 → c23 ≤ 0 → c13 ≤ 0) :
    Calls Tryd.prog 6 #[.agg #[.int .i64 k1, .int .i64 n1, .string s01], .agg #[.int .i64 k2, .int .i64 n2, .string s02], .agg #[.int .i64 k3, .int .i64 n3, .string s03]] w fun e w' => e = .returned (.bool true) ∧ Below w.heap.size w w' := by
  go_enter Tryd.func6, Tryd.ntmps6
  go_wp2_with fail
  generalize hX : Obj.cells #[Value.int .i64 k1, Value.int .i64 n1, Value.string s01] 24 = X
  generalize hY : Obj.cells #[Value.int .i64 k2, Value.int .i64 n2, Value.string s02] 24 = Y
  generalize hZ : Obj.cells #[Value.int .i64 k3, Value.int .i64 n3, Value.string s03] 24 = Z
  obtain ⟨A, hAe⟩ : ∃ A, w.heap.size = A := ⟨_, rfl⟩
  obtain ⟨B, hBe⟩ : ∃ B, w.heap.size + 1 = B := ⟨_, rfl⟩
  obtain ⟨C, hCe⟩ : ∃ C, w.heap.size + 1 + 1 = C := ⟨_, rfl⟩
  have hs : Three w (((w.alloc X).alloc Y).alloc Z) A B C (.int .i64 k1) (.int .i64 n1) (.string s01) (.int .i64 k2) (.int .i64 n2) (.string s02) (.int .i64 k3) (.int .i64 n3) (.string s03) := by
    rw [← hX, ← hY, ← hZ, ← hAe, ← hBe, ← hCe]
    refine ⟨by simp [go_sem], by simp [go_sem], by simp [go_sem], by simp [go_sem], by simp [go_sem], by simp [go_sem], by simp [go_sem], by simp [go_sem], by simp [go_sem], by simp [go_sem], by simp [go_sem], by simp [go_sem], by simp [go_sem], by simp [go_sem], by simp [go_sem], by simp [go_sem], by simp [go_sem], by simp [go_sem], (((Below.refl _ _).alloc (Nat.le_refl _) _).alloc (by simp) _).alloc (by simp; omega) _⟩
  have hA : w.heap.size ≤ A := by omega
  have hB : w.heap.size ≤ B := by omega
  have hC : w.heap.size ≤ C := by omega
  have hAB : A ≠ B := by omega
  have hAC : A ≠ C := by omega
  have hBC : B ≠ C := by omega
  clear hX hY hZ
  rw [hCe, hBe, hAe]
  generalize ((w.alloc X).alloc Y).alloc Z = w0 at *
  clear hAe hBe hCe
  refine wp_region_L (st := [6, 7, 8]) (S := fun w' => Three w w' A B C (.int .i64 k1) (.int .i64 n1) (.string s01) (.int .i64 k2) (.int .i64 n2) (.string s02) (.int .i64 k3) (.int .i64 n3) (.string s03)) (by kernel_rfl) (hs.drew) (fun hHeld => ?_)
  refine wpAnyL_take (i := 0) (oi := _) (v := ?_) rfl (by kernel_rfl) (by kernel_rfl) (by kernel_rfl) (by decide) (by kernel_rfl) (by kernel_rfl) (by kernel_rfl) (fun _ _ _ h => h) (Or.inl ⟨by rfl, ?_⟩) (by assumption) ?_
  rotate_left
  · (intro w hSw; obtain ⟨q1, q2, q3, q4, q5, q6, q7, q8, q9, _, _, _, _, _, _, _, _, _, _⟩ := hSw; go_simp; try with_reducible rfl)
  try simp only [List.getElem_toArray, List.getElem_cons_zero, Act.put, List.setIfInBounds_toArray, List.set_cons_zero, List.set_cons_succ]
  refine wpAnyL_take (i := 2) (oi := _) (v := ?_) rfl (by kernel_rfl) (by kernel_rfl) (by kernel_rfl) (by decide) (by kernel_rfl) (by kernel_rfl) (by kernel_rfl) (fun _ _ _ h => h) (Or.inl ⟨by rfl, ?_⟩) (by assumption) ?_
  rotate_left
  · (intro w hSw; obtain ⟨q1, q2, q3, q4, q5, q6, q7, q8, q9, _, _, _, _, _, _, _, _, _, _⟩ := hSw; go_simp; try with_reducible rfl)
  try simp only [List.getElem_toArray, List.getElem_cons_zero, List.getElem_cons_succ, Act.put, List.setIfInBounds_toArray, List.set_cons_zero, List.set_cons_succ]
  refine wpAnyL_take (i := 4) (oi := _) (v := ?_) rfl (by kernel_rfl) (by kernel_rfl) (by kernel_rfl) (by decide) (by kernel_rfl) (by kernel_rfl) (by kernel_rfl) (fun _ _ _ h => h) (Or.inl ⟨by rfl, ?_⟩) (by assumption) ?_
  rotate_left
  · (intro w hSw; obtain ⟨q1, q2, q3, q4, q5, q6, q7, q8, q9, _, _, _, _, _, _, _, _, _, _⟩ := hSw; go_simp; try with_reducible rfl)
  try simp only [List.getElem_toArray, List.getElem_cons_zero, List.getElem_cons_succ, Act.put, List.setIfInBounds_toArray, List.set_cons_zero, List.set_cons_succ]
  refine wpAnyL_ready (rs := [1]) (by kernel_rfl) (by simp) ?_
  refine AllReadyL.cons (o := _) rfl (fun K hK => ?_) AllReadyL.nil
  go_simp
  refine (C1.out _).mono ?_
  rintro e w8 ⟨rfl, hb8⟩
  refine hK.out _ _ (hHeld.keep hb8) (fun hHeld => ?_)
  clear hK K
  try simp only [List.getElem_toArray, List.getElem_cons_zero, List.getElem_cons_succ, Act.put, List.setIfInBounds_toArray, List.set_cons_zero, List.set_cons_succ]
  refine wpAnyL_ready (rs := [3]) (by kernel_rfl) (by simp) ?_
  refine AllReadyL.cons (o := _) rfl (fun K hK => ?_) AllReadyL.nil
  go_simp
  refine (C2.out _).mono ?_
  rintro e w8 ⟨rfl, hb8⟩
  refine hK.out _ _ (hHeld.keep hb8) (fun hHeld => ?_)
  clear hK K
  try simp only [List.getElem_toArray, List.getElem_cons_zero, List.getElem_cons_succ, Act.put, List.setIfInBounds_toArray, List.set_cons_zero, List.set_cons_succ]
  refine wpAnyL_ready (rs := [5]) (by kernel_rfl) (by simp) ?_
  refine AllReadyL.cons (o := _) rfl (fun K hK => ?_) AllReadyL.nil
  go_simp
  refine (C3.out _).mono ?_
  rintro e w8 ⟨rfl, hb8⟩
  refine hK.out _ _ (hHeld.keep hb8) (fun hHeld => ?_)
  clear hK K
  try simp only [List.getElem_toArray, List.getElem_cons_zero, List.getElem_cons_succ, Act.put, List.setIfInBounds_toArray, List.set_cons_zero, List.set_cons_succ]
  obtain ⟨_, _, _, _, _, _, _, _, _, f1, f2, f3, f4, f5, f6, f7, f8, f9, _⟩ := id hHeld
  refine wpAnyL_ready (rs := [6]) (by kernel_rfl) (by simp) ?_
  refine AllReadyL.store (o := _) rfl (by decide) (by decide) (fun K hK => ?_) AllReadyL.nil
  go_simp
  refine hK.out _ _ ?_
  clear hK K
  try simp only [List.getElem_toArray, List.getElem_cons_zero, List.getElem_cons_succ, Act.put, List.setIfInBounds_toArray, List.set_cons_zero, List.set_cons_succ]
  refine wpAnyL_ready (rs := [7]) (by kernel_rfl) (by simp) ?_
  refine AllReadyL.store (o := _) rfl (by decide) (by decide) (fun K hK => ?_) AllReadyL.nil
  go_simp
  refine hK.out _ _ ?_
  clear hK K
  try simp only [List.getElem_toArray, List.getElem_cons_zero, List.getElem_cons_succ, Act.put, List.setIfInBounds_toArray, List.set_cons_zero, List.set_cons_succ]
  refine wpAnyL_ready (rs := [8]) (by kernel_rfl) (by simp) ?_
  refine AllReadyL.store (o := _) rfl (by decide) (by decide) (fun K hK => ?_) AllReadyL.nil
  go_simp
  refine hK.out _ _ ?_
  clear hK K
  try simp only [List.getElem_toArray, List.getElem_cons_zero, List.getElem_cons_succ, Act.put, List.setIfInBounds_toArray, List.set_cons_zero, List.set_cons_succ]
  refine wpAnyL_done (by kernel_rfl) ?_ _
  have HS : Three w (((((((((w8.setCell ⟨A, 0, none⟩ (.int .i64 k1)).setCell ⟨A, 1, none⟩ (.int .i64 n1)).setCell ⟨A, 2, none⟩ (.string s1)).setCell ⟨B, 0, none⟩ (.int .i64 k2)).setCell ⟨B, 1, none⟩ (.int .i64 n2)).setCell ⟨B, 2, none⟩ (.string s2)).setCell ⟨C, 0, none⟩ (.int .i64 k3)).setCell ⟨C, 1, none⟩ (.int .i64 n3)).setCell ⟨C, 2, none⟩ (.string s3)) A B C (.int .i64 k1) (.int .i64 n1) (.string s1) (.int .i64 k2) (.int .i64 n2) (.string s2) (.int .i64 k3) (.int .i64 n3) (.string s3) := set_three hHeld hA hB hC hAB hAC hBC _ _ _ _ _ _ _ _ _
  clear hHeld f1 f2 f3 f4 f5 f6 f7 f8 f9
  generalize ((((((((w8.setCell ⟨A, 0, none⟩ (.int .i64 k1)).setCell ⟨A, 1, none⟩ (.int .i64 n1)).setCell ⟨A, 2, none⟩ (.string s1)).setCell ⟨B, 0, none⟩ (.int .i64 k2)).setCell ⟨B, 1, none⟩ (.int .i64 n2)).setCell ⟨B, 2, none⟩ (.string s2)).setCell ⟨C, 0, none⟩ (.int .i64 k3)).setCell ⟨C, 1, none⟩ (.int .i64 n3)).setCell ⟨C, 2, none⟩ (.string s3) = w9 at *
  obtain ⟨q1, q2, q3, q4, q5, q6, q7, q8, q9, _, _, _, _, _, _, _, _, _, _⟩ := id HS
  clear hs
  go_wp2_with fail
  refine (G1.out _).mono ?_
  rintro e w10 ⟨rfl, hb10⟩
  have HS := HS.keep hb10
  clear q1 q2 q3 q4 q5 q6 q7 q8 q9 hb10
  obtain ⟨q1, q2, q3, q4, q5, q6, q7, q8, q9, _, _, _, _, _, _, _, _, _, _⟩ := id HS
  cases g1
  · clear P12 P23 P13
    go_wp2_with fail
    refine (AW.out _ (HG.out.next HS.bel)).mono ?_
    rintro e w20 ⟨rfl, hb20⟩
    have HB := Lib.hid (HS.bel.trans (hb20.mono HS.bel.size))
    clear hb20
    go_wp2_with fail
    go_ret
    exact ⟨rfl, HB.out⟩
  go_wp2_with fail
  refine (G2.out _).mono ?_
  rintro e w11 ⟨rfl, hb11⟩
  have HS := HS.keep hb11
  clear q1 q2 q3 q4 q5 q6 q7 q8 q9 hb11
  obtain ⟨q1, q2, q3, q4, q5, q6, q7, q8, q9, _, _, _, _, _, _, _, _, _, _⟩ := id HS
  cases g2
  · clear P12 P23 P13
    go_wp2_with fail
    refine (AW.out _ (HG.out.next HS.bel)).mono ?_
    rintro e w21 ⟨rfl, hb21⟩
    have HB := Lib.hid (HS.bel.trans (hb21.mono HS.bel.size))
    clear hb21
    go_wp2_with fail
    go_ret
    exact ⟨rfl, HB.out⟩
  go_wp2_with fail
  refine (G3.out _).mono ?_
  rintro e w12 ⟨rfl, hb12⟩
  have HS := HS.keep hb12
  clear q1 q2 q3 q4 q5 q6 q7 q8 q9 hb12
  obtain ⟨q1, q2, q3, q4, q5, q6, q7, q8, q9, _, _, _, _, _, _, _, _, _, _⟩ := id HS
  cases g3
  · clear P12 P23 P13
    go_wp2_with fail
    refine (AW.out _ (HG.out.next HS.bel)).mono ?_
    rintro e w22 ⟨rfl, hb22⟩
    have HB := Lib.hid (HS.bel.trans (hb22.mono HS.bel.size))
    clear hb22
    go_wp2_with fail
    go_ret
    exact ⟨rfl, HB.out⟩
  have P12 := P12 rfl
  have P23 := P23 rfl
  have P13 := P13 rfl
  by_cases hk1 : k1 = k2
  · subst hk1
    by_cases hk2 : k1 = k3
    · subst hk2
      have HLE : Hid (c12 ≤ 0 → c23 ≤ 0 → c13 ≤ 0) := Lib.hid (hle rfl rfl)
      clear hle
      clear C1 C2 C3 G1 G2 G3
      go_wp2_with fail
      refine (P12.out _ (HG.out.next HS.bel)).mono ?_
      rintro e w13 ⟨rfl, hb13⟩
      have HS := HS.keep hb13
      clear q1 q2 q3 q4 q5 q6 q7 q8 q9 hb13
      obtain ⟨q1, q2, q3, q4, q5, q6, q7, q8, q9, _, _, _, _, _, _, _, _, _, _⟩ := id HS
      by_cases h12 : 0 < c12
      · go_wp2_with fail
        refine (AW.out _ (HG.out.next HS.bel)).mono ?_
        rintro e w14 ⟨rfl, hb14⟩
        have HB := Lib.hid (HS.bel.trans (hb14.mono HS.bel.size))
        clear hb14
        go_wp2_with fail
        go_ret
        exact ⟨rfl, HB.out⟩
      · go_wp2_with fail
        refine (P23.out _ (HG.out.next HS.bel)).mono ?_
        rintro e w14 ⟨rfl, hb14⟩
        have HS := HS.keep hb14
        clear q1 q2 q3 q4 q5 q6 q7 q8 q9 hb14
        obtain ⟨q1, q2, q3, q4, q5, q6, q7, q8, q9, _, _, _, _, _, _, _, _, _, _⟩ := id HS
        by_cases h23 : 0 < c23
        · go_wp2_with fail
          refine (AW.out _ (HG.out.next HS.bel)).mono ?_
          rintro e w15 ⟨rfl, hb15⟩
          have HB := Lib.hid (HS.bel.trans (hb15.mono HS.bel.size))
          clear hb15
          go_wp2_with fail
          go_ret
          exact ⟨rfl, HB.out⟩
        · have h13 : c13 ≤ 0 := HLE.out (by omega) (by omega)
          have h13n : ¬ 0 < c13 := by omega
          go_wp2_with fail
          refine (AW.out _ (HG.out.next HS.bel)).mono ?_
          rintro e w15 ⟨rfl, hb15⟩
          have HS := HS.keep hb15
          clear q1 q2 q3 q4 q5 q6 q7 q8 q9 hb15
          obtain ⟨q1, q2, q3, q4, q5, q6, q7, q8, q9, _, _, _, _, _, _, _, _, _, _⟩ := id HS
          go_wp2_with fail
          refine (P13.out _ (HG.out.next HS.bel)).mono ?_
          rintro e w16 ⟨rfl, hb16⟩
          have HB := Lib.hid (HS.bel.trans (hb16.mono HS.bel.size))
          clear hb16
          go_wp2_with fail
          go_ret
          exact ⟨rfl, HB.out⟩
    · have hkb : (k1 == k3) = false := by simpa using hk2
      clear P12 P23 P13
      go_wp2_with fail
      refine (AW.out _ (HG.out.next HS.bel)).mono ?_
      rintro e w14 ⟨rfl, hb14⟩
      have HB := Lib.hid (HS.bel.trans (hb14.mono HS.bel.size))
      clear hb14
      go_wp2_with fail
      go_ret
      exact ⟨rfl, HB.out⟩
  · have hkb : (k1 == k2) = false := by simpa using hk1
    clear P12 P23 P13
    go_wp2_with fail
    refine (AW.out _ (HG.out.next HS.bel)).mono ?_
    rintro e w14 ⟨rfl, hb14⟩
    have HB := Lib.hid (HS.bel.trans (hb14.mono HS.bel.size))
    clear hb14
    go_wp2_with fail
    go_ret
    exact ⟨rfl, HB.out⟩
theorem corders_walk (k1 n1 : Int) (s01 : ByteArray) (k2 n2 : Int) (s02 : ByteArray) (k3 n3 : Int) (s03 : ByteArray) (h1 : s01.size ≤ maxLen) (h2 : s02.size ≤ maxLen) (h3 : s03.size ≤ maxLen) (w : World) (G : Gl w) :
    Calls Tryd.prog 6 #[cv k1 n1 s01, cv k2 n2 s02, cv k3 n3 s03] w fun e w' => e = .returned (.bool true) ∧ Below w.heap.size w w' := by
  have hs1 := cutB_size s01 100
  have hs2 := cutB_size s02 100
  have hs3 := cutB_size s03 100
  have C1 := Lib.hid fun W => lcut_any k1 n1 s01 W h1
  have C2 := Lib.hid fun W => lcut_any k2 n2 s02 W h2
  have C3 := Lib.hid fun W => lcut_any k3 n3 s03 W h3
  generalize cutB s01 100 = s1 at *
  generalize cutB s02 100 = s2 at *
  generalize cutB s03 100 = s3 at *
  obtain ⟨g1, hg1, G1⟩ := good_c k1 n1 s1 (by omega)
  obtain ⟨g2, hg2, G2⟩ := good_c k2 n2 s2 (by omega)
  obtain ⟨g3, hg3, G3⟩ := good_c k3 n3 s3 (by omega)
  refine corders_in k1 n1 k2 n2 k3 n3 s01 s1 s02 s2 s03 s3 g1 g2 g3 (compC k1 n1 s1 k2 n2 s2) (compC k2 n2 s2 k3 n3 s3) (compC k1 n1 s1 k3 n3 s3) w (Lib.hid G) (Lib.hid fun W G => cawake_any W G) C1 C2 C3 (Lib.hid G1) (Lib.hid G2) (Lib.hid G3)
    (fun h => Lib.hid fun W G => ?_) (fun h => Lib.hid fun W G => ?_) (fun h => Lib.hid fun W G => ?_) ?_
  · rw [Bool.and_eq_true, Bool.and_eq_true] at h
    exact comp_any k1 n1 s1 k2 n2 s2 W (good_one (hg1.1 h.1.1)) (good_one (hg2.1 h.1.2)) G
  · rw [Bool.and_eq_true, Bool.and_eq_true] at h
    exact comp_any k2 n2 s2 k3 n3 s3 W (good_one (hg2.1 h.1.2)) (good_one (hg3.1 h.2)) G
  · rw [Bool.and_eq_true, Bool.and_eq_true] at h
    exact comp_any k1 n1 s1 k3 n3 s3 W (good_one (hg1.1 h.1.1)) (good_one (hg3.1 h.2)) G
  · rintro rfl rfl
    exact comp_le k1 n1 s1 n2 s2 n3 s3
end Go.Proofs.YtajonlpohllheaaDoor
