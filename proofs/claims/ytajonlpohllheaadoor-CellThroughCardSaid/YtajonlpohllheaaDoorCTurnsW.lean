/-
  THE WALK of scribelaw06.CellTurns: it returns true, and nothing that was there is written.
-/
import Derived.Test.YtajonlpohllheaaDoorCellM
import Derived.Test.YtajonlpohllheaaDoorOrd
namespace Go.Proofs.YtajonlpohllheaaDoor
open Go.RowKit

/-- Two values in memory, in two blocks of the call's own. -/
structure Two (W w : World) (A B : Nat) (x1 x2 x3 y1 y2 y3 : Value) : Prop where
  a0 : w.cell? ⟨A, 0, none⟩ = some x1
  a1 : w.cell? ⟨A, 1, none⟩ = some x2
  a2 : w.cell? ⟨A, 2, none⟩ = some x3
  b0 : w.cell? ⟨B, 0, none⟩ = some y1
  b1 : w.cell? ⟨B, 1, none⟩ = some y2
  b2 : w.cell? ⟨B, 2, none⟩ = some y3
  fa0 : w.frozen? ⟨A, 0, none⟩ = false
  fa1 : w.frozen? ⟨A, 1, none⟩ = false
  fa2 : w.frozen? ⟨A, 2, none⟩ = false
  fb0 : w.frozen? ⟨B, 0, none⟩ = false
  fb1 : w.frozen? ⟨B, 1, none⟩ = false
  fb2 : w.frozen? ⟨B, 2, none⟩ = false
  bel : Below W.heap.size W w
theorem Two.keep {W w w3 : World} {A B : Nat} {x1 x2 x3 y1 y2 y3 : Value} (h : Two W w A B x1 x2 x3 y1 y2 y3) (hb : Below w.heap.size w w3) : Two W w3 A B x1 x2 x3 y1 y2 y3 := by
  have k : ∀ {c o : Nat} {x : Value}, w.cell? ⟨c, o, none⟩ = some x → w3.cell? ⟨c, o, none⟩ = some x := fun h => (hb.cell (p := ⟨_, _, none⟩) (World.block_lt_of_cell? _ _ h)).trans h
  have hA : A < w.heap.size := World.block_lt_of_cell? _ _ h.a0
  have hB : B < w.heap.size := World.block_lt_of_cell? _ _ h.b0
  have f : ∀ {c o : Nat}, c < w.heap.size → w.frozen? ⟨c, o, none⟩ = false → w3.frozen? ⟨c, o, none⟩ = false := fun hc h => (hb.frozen (p := ⟨_, _, none⟩) hc).trans h
  exact ⟨k h.a0, k h.a1, k h.a2, k h.b0, k h.b1, k h.b2, f hA h.fa0, f hA h.fa1, f hA h.fa2, f hB h.fb0, f hB h.fb1, f hB h.fb2, h.bel.trans (hb.mono h.bel.size)⟩
theorem Two.drew {W w : World} {A B : Nat} {x1 x2 x3 y1 y2 y3 : Value} (h : Two W w A B x1 x2 x3 y1 y2 y3) : Two W w.drew A B x1 x2 x3 y1 y2 y3 :=
  ⟨h.a0, h.a1, h.a2, h.b0, h.b1, h.b2, h.fa0, h.fa1, h.fa2, h.fb0, h.fb1, h.fb2, h.bel.drew⟩
theorem set_same {w : World} {a o : Nat} {x y : Value} (h : w.cell? ⟨a, o, none⟩ = some y) : (w.setCell ⟨a, o, none⟩ x).cell? ⟨a, o, none⟩ = some x := World.cell?_setCell_same _ _ _ h
theorem set_far {w : World} {a o b q : Nat} {x y : Value} (h : w.cell? ⟨b, q, none⟩ = some y) (hne : ¬ (a = b ∧ o = q)) : (w.setCell ⟨a, o, none⟩ x).cell? ⟨b, q, none⟩ = some y := by
  rw [World.cell?_setCell_other _ _ _ _ (by intro e; exact hne (by simpa using e))]; exact h
/-- Three cells of one block written anew. -/
theorem set3 {w : World} {a : Nat} {u1 u2 u3 : Value} (h : w.cell? ⟨a, 0, none⟩ = some u1 ∧ w.cell? ⟨a, 1, none⟩ = some u2 ∧ w.cell? ⟨a, 2, none⟩ = some u3) (x y z : Value) :
    (((w.setCell ⟨a, 0, none⟩ x).setCell ⟨a, 1, none⟩ y).setCell ⟨a, 2, none⟩ z).cell? ⟨a, 0, none⟩ = some x
    ∧ (((w.setCell ⟨a, 0, none⟩ x).setCell ⟨a, 1, none⟩ y).setCell ⟨a, 2, none⟩ z).cell? ⟨a, 1, none⟩ = some y
    ∧ (((w.setCell ⟨a, 0, none⟩ x).setCell ⟨a, 1, none⟩ y).setCell ⟨a, 2, none⟩ z).cell? ⟨a, 2, none⟩ = some z :=
  ⟨set_far (set_far (set_same h.1) (by omega)) (by omega), set_far (set_same (set_far h.2.1 (by omega))) (by omega), set_same (set_far (set_far h.2.2 (by omega)) (by omega))⟩
theorem far3 {w : World} {a b : Nat} (hab : a ≠ b) (x y z : Value) {o : Nat} {u : Value} (h : w.cell? ⟨b, o, none⟩ = some u) : (((w.setCell ⟨a, 0, none⟩ x).setCell ⟨a, 1, none⟩ y).setCell ⟨a, 2, none⟩ z).cell? ⟨b, o, none⟩ = some u :=
  set_far (set_far (set_far h (by omega)) (by omega)) (by omega)
theorem frz3 {w : World} {a : Nat} {x y z : Value} {b o : Nat} (h : w.frozen? ⟨b, o, none⟩ = false) : (((w.setCell ⟨a, 0, none⟩ x).setCell ⟨a, 1, none⟩ y).setCell ⟨a, 2, none⟩ z).frozen? ⟨b, o, none⟩ = false := by
  simp [go_sem, h]
theorem bset3 {W w : World} {a : Nat} (hb : Below W.heap.size W w) (ha : W.heap.size ≤ a) (x y z : Value) : Below W.heap.size W (((w.setCell ⟨a, 0, none⟩ x).setCell ⟨a, 1, none⟩ y).setCell ⟨a, 2, none⟩ z) :=
  ((hb.setCell ha _).setCell ha _).setCell ha _
theorem set_two {W w : World} {A B : Nat} {u1 u2 u3 v1 v2 v3 : Value} (h : Two W w A B u1 u2 u3 v1 v2 v3) (hA : W.heap.size ≤ A) (hB : W.heap.size ≤ B) (hAB : A ≠ B) (x1 x2 x3 y1 y2 y3 : Value) :
    Two W ((((((w.setCell ⟨A, 0, none⟩ x1).setCell ⟨A, 1, none⟩ x2).setCell ⟨A, 2, none⟩ x3).setCell ⟨B, 0, none⟩ y1).setCell ⟨B, 1, none⟩ y2).setCell ⟨B, 2, none⟩ y3) A B x1 x2 x3 y1 y2 y3 := by
  have e1 := set3 ⟨h.a0, h.a1, h.a2⟩ x1 x2 x3
  have e2 := set3 (a := B) ⟨far3 hAB x1 x2 x3 h.b0, far3 hAB x1 x2 x3 h.b1, far3 hAB x1 x2 x3 h.b2⟩ y1 y2 y3
  exact ⟨far3 (Ne.symm hAB) _ _ _ e1.1, far3 (Ne.symm hAB) _ _ _ e1.2.1, far3 (Ne.symm hAB) _ _ _ e1.2.2, e2.1, e2.2.1, e2.2.2, frz3 (frz3 h.fa0), frz3 (frz3 h.fa1), frz3 (frz3 h.fa2), frz3 (frz3 h.fb0), frz3 (frz3 h.fb1), frz3 (frz3 h.fb2), bset3 (bset3 h.bel hA _ _ _) hB _ _ _⟩
set_option maxHeartbeats 8000000 in
set_option maxRecDepth 100000 in
theorem cturns_in (k1 n1 k2 n2 : Int) (s01 s1 s02 s2 : ByteArray) (g1 g2 : Bool) (c d : Int) (w : World) (HG : Hid (Gl w)) (AW : Hid (∀ W, Gl W → Calls Tryd.prog 12 #[] W fun e w' => e = .returned (.bool true) ∧ Below W.heap.size W w'))
    (C1 : Hid (∀ W, Calls Tryd.prog 10 #[.agg #[.int .i64 k1, .int .i64 n1, .string s01]] W fun e w' => e = .returned (.agg #[.int .i64 k1, .int .i64 n1, .string s1]) ∧ Below W.heap.size W w'))
    (C2 : Hid (∀ W, Calls Tryd.prog 10 #[.agg #[.int .i64 k2, .int .i64 n2, .string s02]] W fun e w' => e = .returned (.agg #[.int .i64 k2, .int .i64 n2, .string s2]) ∧ Below W.heap.size W w'))
    (G1 : Hid (∀ W, Calls Tryd.prog 13 #[.agg #[.int .i64 k1, .int .i64 n1, .string s1]] W fun e w' => e = .returned (.bool g1) ∧ Below W.heap.size W w'))
    (G2 : Hid (∀ W, Calls Tryd.prog 13 #[.agg #[.int .i64 k2, .int .i64 n2, .string s2]] W fun e w' => e = .returned (.bool g2) ∧ Below W.heap.size W w'))
    (P1 : (g1 && g2) = true → Hid (∀ W, Gl W → Calls Tryd.prog 21 #[.agg #[.int .i64 k1, .int .i64 n1, .string s1], .agg #[.int .i64 k2, .int .i64 n2, .string s2]] W fun e w' => e = .returned (.int .i64 c) ∧ Below W.heap.size W w'))
    (P2 : (g1 && g2) = true → Hid (∀ W, Gl W → Calls Tryd.prog 21 #[.agg #[.int .i64 k2, .int .i64 n2, .string s2], .agg #[.int .i64 k1, .int .i64 n1, .string s1]] W fun e w' => e = .returned (.int .i64 d) ∧ Below W.heap.size W w'))
    (P3 : (g1 && g2) = true → Hid (∀ W, Gl W → Calls Tryd.prog 21 #[.agg #[.int .i64 k1, .int .i64 n1, .string s1], .agg #[.int .i64 k1, .int .i64 n1, .string s1]] W fun e w' => e = .returned (.int .i64 0) ∧ Below W.heap.size W w'))
    (hcd : (c = -1 ∧ d = 1) ∨ (c = 0 ∧ d = 0) ∨ (c = 1 ∧ d = -1)) :
    Calls Tryd.prog 5 #[.agg #[.int .i64 k1, .int .i64 n1, .string s01], .agg #[.int .i64 k2, .int .i64 n2, .string s02]] w fun e w' => e = .returned (.bool true) ∧ Below w.heap.size w w' := by
  go_enter Tryd.func5, Tryd.ntmps5
  go_wp2_with fail
  generalize hX : Obj.cells #[Value.int .i64 k1, Value.int .i64 n1, Value.string s01] 24 = X
  generalize hY : Obj.cells #[Value.int .i64 k2, Value.int .i64 n2, Value.string s02] 24 = Y
  obtain ⟨A, hAe⟩ : ∃ A, w.heap.size = A := ⟨_, rfl⟩
  obtain ⟨B, hBe⟩ : ∃ B, w.heap.size + 1 = B := ⟨_, rfl⟩
  have hs : Two w ((w.alloc X).alloc Y) A B (.int .i64 k1) (.int .i64 n1) (.string s01) (.int .i64 k2) (.int .i64 n2) (.string s02) := by
    rw [← hX, ← hY, ← hAe, ← hBe]
    refine ⟨by simp [go_sem], by simp [go_sem], by simp [go_sem], by simp [go_sem], by simp [go_sem], by simp [go_sem], by simp [go_sem], by simp [go_sem], by simp [go_sem], by simp [go_sem], by simp [go_sem], by simp [go_sem], ((Below.refl _ _).alloc (Nat.le_refl _) _).alloc (by simp) _⟩
  have hA : w.heap.size ≤ A := by omega
  have hB : w.heap.size ≤ B := by omega
  have hAB : A ≠ B := by omega
  clear hX hY
  rw [hBe, hAe]
  generalize (w.alloc X).alloc Y = w0 at *
  clear hAe hBe
  refine wp_region_L (st := [4, 5]) (S := fun w' => Two w w' A B (.int .i64 k1) (.int .i64 n1) (.string s01) (.int .i64 k2) (.int .i64 n2) (.string s02)) (by kernel_rfl) (hs.drew) (fun hHeld => ?_)
  refine wpAnyL_take (i := 0) (oi := _) (v := ?_) rfl (by kernel_rfl) (by kernel_rfl) (by kernel_rfl) (by decide) (by kernel_rfl) (by kernel_rfl) (by kernel_rfl) (fun _ _ _ h => h) (Or.inl ⟨by rfl, ?_⟩) (by assumption) ?_
  rotate_left
  · (intro w hSw; obtain ⟨q1, q2, q3, q4, q5, q6, _, _, _, _, _, _, _⟩ := hSw; go_simp; try with_reducible rfl)
  try simp only [List.getElem_toArray, List.getElem_cons_zero, Act.put, List.setIfInBounds_toArray, List.set_cons_zero, List.set_cons_succ]
  refine wpAnyL_take (i := 2) (oi := _) (v := ?_) rfl (by kernel_rfl) (by kernel_rfl) (by kernel_rfl) (by decide) (by kernel_rfl) (by kernel_rfl) (by kernel_rfl) (fun _ _ _ h => h) (Or.inl ⟨by rfl, ?_⟩) (by assumption) ?_
  rotate_left
  · (intro w hSw; obtain ⟨q1, q2, q3, q4, q5, q6, _, _, _, _, _, _, _⟩ := hSw; go_simp; try with_reducible rfl)
  try simp only [List.getElem_toArray, List.getElem_cons_zero, List.getElem_cons_succ, Act.put, List.setIfInBounds_toArray, List.set_cons_zero, List.set_cons_succ]
  refine wpAnyL_ready (rs := [1]) (by kernel_rfl) (by simp) ?_
  refine AllReadyL.cons (o := _) rfl (fun K hK => ?_) AllReadyL.nil
  go_simp
  refine (C1.out _).mono ?_
  rintro e w8 ⟨rfl, hb8⟩
  refine hK.out _ _ (hHeld.keep hb8) (fun hHeld => ?_)
  clear hK K
  try simp only [List.getElem_toArray, List.getElem_cons_zero, List.getElem_cons_succ, Act.put, List.setIfInBounds_toArray, List.set_cons_zero, List.set_cons_succ]
  refine wpAnyL_ready (rs := [3]) (by kernel_rfl) (by simp) ?_
  refine AllReadyL.cons (o := _) rfl (fun K hK => ?_) AllReadyL.nil
  go_simp
  refine (C2.out _).mono ?_
  rintro e w8 ⟨rfl, hb8⟩
  refine hK.out _ _ (hHeld.keep hb8) (fun hHeld => ?_)
  clear hK K
  try simp only [List.getElem_toArray, List.getElem_cons_zero, List.getElem_cons_succ, Act.put, List.setIfInBounds_toArray, List.set_cons_zero, List.set_cons_succ]
  obtain ⟨_, _, _, _, _, _, f1, f2, f3, f4, f5, f6, _⟩ := id hHeld
  refine wpAnyL_ready (rs := [4]) (by kernel_rfl) (by simp) ?_
  refine AllReadyL.store (o := _) rfl (by decide) (by decide) (fun K hK => ?_) AllReadyL.nil
  go_simp
  refine hK.out _ _ ?_
  clear hK K
  try simp only [List.getElem_toArray, List.getElem_cons_zero, List.getElem_cons_succ, Act.put, List.setIfInBounds_toArray, List.set_cons_zero, List.set_cons_succ]
  refine wpAnyL_ready (rs := [5]) (by kernel_rfl) (by simp) ?_
  refine AllReadyL.store (o := _) rfl (by decide) (by decide) (fun K hK => ?_) AllReadyL.nil
  go_simp
  refine hK.out _ _ ?_
  clear hK K
  try simp only [List.getElem_toArray, List.getElem_cons_zero, List.getElem_cons_succ, Act.put, List.setIfInBounds_toArray, List.set_cons_zero, List.set_cons_succ]
  refine wpAnyL_done (by kernel_rfl) ?_ _
  have HS : Two w ((((((w8.setCell ⟨A, 0, none⟩ (.int .i64 k1)).setCell ⟨A, 1, none⟩ (.int .i64 n1)).setCell ⟨A, 2, none⟩ (.string s1)).setCell ⟨B, 0, none⟩ (.int .i64 k2)).setCell ⟨B, 1, none⟩ (.int .i64 n2)).setCell ⟨B, 2, none⟩ (.string s2)) A B (.int .i64 k1) (.int .i64 n1) (.string s1) (.int .i64 k2) (.int .i64 n2) (.string s2) := set_two hHeld hA hB hAB _ _ _ _ _ _
  clear hHeld f1 f2 f3 f4 f5 f6
  generalize (((((w8.setCell ⟨A, 0, none⟩ (.int .i64 k1)).setCell ⟨A, 1, none⟩ (.int .i64 n1)).setCell ⟨A, 2, none⟩ (.string s1)).setCell ⟨B, 0, none⟩ (.int .i64 k2)).setCell ⟨B, 1, none⟩ (.int .i64 n2)).setCell ⟨B, 2, none⟩ (.string s2) = w9 at *
  obtain ⟨q1, q2, q3, q4, q5, q6, _, _, _, _, _, _, _⟩ := id HS
  clear hs
  go_wp2_with fail
  refine (G1.out _).mono ?_
  rintro e w10 ⟨rfl, hb10⟩
  have HS := HS.keep hb10
  clear q1 q2 q3 q4 q5 q6 hb10
  obtain ⟨q1, q2, q3, q4, q5, q6, _, _, _, _, _, _, _⟩ := id HS
  cases g1
  · clear P1 P2 P3
    go_wp2_with fail
    refine (AW.out _ (HG.out.next HS.bel)).mono ?_
    rintro e w11 ⟨rfl, hb11⟩
    have HB := Lib.hid (HS.bel.trans (hb11.mono HS.bel.size))
    clear hb11
    go_wp2_with fail
    go_ret
    exact ⟨rfl, HB.out⟩
  go_wp2_with fail
  refine (G2.out _).mono ?_
  rintro e w11 ⟨rfl, hb11⟩
  have HS := HS.keep hb11
  clear q1 q2 q3 q4 q5 q6 hb11
  obtain ⟨q1, q2, q3, q4, q5, q6, _, _, _, _, _, _, _⟩ := id HS
  cases g2
  · clear P1 P2 P3
    go_wp2_with fail
    refine (AW.out _ (HG.out.next HS.bel)).mono ?_
    rintro e w12 ⟨rfl, hb12⟩
    have HB := Lib.hid (HS.bel.trans (hb12.mono HS.bel.size))
    clear hb12
    go_wp2_with fail
    go_ret
    exact ⟨rfl, HB.out⟩
  have P1 := P1 rfl
  have P2 := P2 rfl
  have P3 := P3 rfl
  have hs : (w11.cell? ⟨A, 0, none⟩ = some (.int .i64 k1) ∧ w11.cell? ⟨A, 1, none⟩ = some (.int .i64 n1) ∧ w11.cell? ⟨A, 2, none⟩ = some (.string s1) ∧ w11.cell? ⟨B, 0, none⟩ = some (.int .i64 k2) ∧ w11.cell? ⟨B, 1, none⟩ = some (.int .i64 n2) ∧ w11.cell? ⟨B, 2, none⟩ = some (.string s2) ∧ Below w.heap.size w w11) := ⟨q1, q2, q3, q4, q5, q6, HS.bel⟩
  clear q1 q2 q3 q4 q5 q6 HS hA hB hAB C1 C2 G1 G2
  go_wp2_with fail
  have hdb : -1 ≤ d ∧ d ≤ 1 := by omega
  obtain ⟨hd1, hd2⟩ := hdb
  have hdc : -d = c := by omega
  have hdk : IntKind.i64.wrap c = c := by rw [IntKind.wrap_i64]; omega
  clear hcd
  all_goals
    go_region_held3 (fun w' => w'.cell? ⟨A, 0, none⟩ = some (.int .i64 k1) ∧ w'.cell? ⟨A, 1, none⟩ = some (.int .i64 n1) ∧ w'.cell? ⟨A, 2, none⟩ = some (.string s1) ∧ w'.cell? ⟨B, 0, none⟩ = some (.int .i64 k2) ∧ w'.cell? ⟨B, 1, none⟩ = some (.int .i64 n2) ∧ w'.cell? ⟨B, 2, none⟩ = some (.string s2) ∧ Below w.heap.size w w') (first | assumption | exact draw6 (by assumption) | go_keep) (first
      | ((with_reducible refine (AW.out _ (HG.out.next (below6 (by assumption)))).mono ?_); rintro e w8 ⟨rfl, hb8⟩; have k8 := keep6 (by assumption) hb8)
      | ((with_reducible refine (P1.out _ (HG.out.next (below6 (by assumption)))).mono ?_); rintro e w8 ⟨rfl, hb8⟩; have k8 := keep6 (by assumption) hb8)
      | ((with_reducible refine (P2.out _ (HG.out.next (below6 (by assumption)))).mono ?_); rintro e w8 ⟨rfl, hb8⟩; have k8 := keep6 (by assumption) hb8)
      | ((with_reducible refine (P3.out _ (HG.out.next (below6 (by assumption)))).mono ?_); rintro e w8 ⟨rfl, hb8⟩; have k8 := keep6 (by assumption) hb8))
    all_goals
      have HB9 : Hid (Below w.heap.size w w8) := Lib.hid (below6 (by assumption))
      go_wp2_with fail
      go_ret
      exact ⟨rfl, HB9.out⟩
theorem cturns_walk (k1 n1 : Int) (s01 : ByteArray) (k2 n2 : Int) (s02 : ByteArray) (h1 : s01.size ≤ maxLen) (h2 : s02.size ≤ maxLen) (w : World) (G : Gl w) :
    Calls Tryd.prog 5 #[cv k1 n1 s01, cv k2 n2 s02] w fun e w' => e = .returned (.bool true) ∧ Below w.heap.size w w' := by
  have hs1 := cutB_size s01 100
  have hs2 := cutB_size s02 100
  have C1 := Lib.hid fun W => lcut_any k1 n1 s01 W h1
  have C2 := Lib.hid fun W => lcut_any k2 n2 s02 W h2
  generalize cutB s01 100 = s1 at *
  generalize cutB s02 100 = s2 at *
  obtain ⟨g1, hg1, G1⟩ := good_c k1 n1 s1 (by omega)
  obtain ⟨g2, hg2, G2⟩ := good_c k2 n2 s2 (by omega)
  refine cturns_in k1 n1 k2 n2 s01 s1 s02 s2 g1 g2 (compC k1 n1 s1 k2 n2 s2) (compC k2 n2 s2 k1 n1 s1) w (Lib.hid G) (Lib.hid fun W G => cawake_any W G) C1 C2 (Lib.hid G1) (Lib.hid G2)
    (fun h => Lib.hid fun W G => ?_) (fun h => Lib.hid fun W G => ?_) (fun h => Lib.hid fun W G => ?_) ?_
  · rw [Bool.and_eq_true] at h
    exact comp_any k1 n1 s1 k2 n2 s2 W (good_one (hg1.1 h.1)) (good_one (hg2.1 h.2)) G
  · rw [Bool.and_eq_true] at h
    exact comp_any k2 n2 s2 k1 n1 s1 W (good_one (hg2.1 h.2)) (good_one (hg1.1 h.1)) G
  · rw [Bool.and_eq_true] at h
    have := comp_any k1 n1 s1 k1 n1 s1 W (good_one (hg1.1 h.1)) (good_one (hg1.1 h.1)) G
    rw [comp_self] at this; exact this
  · have h1 := comp_range k1 n1 s1 k2 n2 s2
    have h2 := comp_turn k1 n1 s1 k2 n2 s2
    omega
end Go.Proofs.YtajonlpohllheaaDoor
