/-
  THE WALK of scribelaw06.CellBools: it returns true, and nothing that was there is written.
-/
import Derived.Test.YtajonlpohllheaaDoorCellW3
namespace Go.Proofs.YtajonlpohllheaaDoor
open Go.RowKit

/-- A world in which a value has been written anew. -/
theorem set3_at {w w1 : World} {k n : Int} {s0 : ByteArray} {T : TypeId} (hb : Below (w.alloc (.cells #[.int .i64 k, .int .i64 n, .string s0] T)).heap.size (w.alloc (.cells #[.int .i64 k, .int .i64 n, .string s0] T)) w1) (x y z : Value) :
    (((w1.setCell ⟨w.heap.size, 0, none⟩ x).setCell ⟨w.heap.size, 1, none⟩ y).setCell ⟨w.heap.size, 2, none⟩ z).cell? ⟨w.heap.size, 0, none⟩ = some x
    ∧ (((w1.setCell ⟨w.heap.size, 0, none⟩ x).setCell ⟨w.heap.size, 1, none⟩ y).setCell ⟨w.heap.size, 2, none⟩ z).cell? ⟨w.heap.size, 1, none⟩ = some y
    ∧ (((w1.setCell ⟨w.heap.size, 0, none⟩ x).setCell ⟨w.heap.size, 1, none⟩ y).setCell ⟨w.heap.size, 2, none⟩ z).cell? ⟨w.heap.size, 2, none⟩ = some z := by
  obtain ⟨hc, _⟩ := bcell hb
  refine ⟨?_, ?_, ?_⟩ <;> simp [go_sem, hc]
/-- Three cells keep what they hold. -/
theorem keep3 {w w3 : World} {a : Nat} {x1 x2 x3 : Value} (h : w.cell? ⟨a, 0, none⟩ = some x1 ∧ w.cell? ⟨a, 1, none⟩ = some x2 ∧ w.cell? ⟨a, 2, none⟩ = some x3) (hb : Below w.heap.size w w3) :
    w3.cell? ⟨a, 0, none⟩ = some x1 ∧ w3.cell? ⟨a, 1, none⟩ = some x2 ∧ w3.cell? ⟨a, 2, none⟩ = some x3 := by
  have k : ∀ {c o : Nat} {x : Value}, w.cell? ⟨c, o, none⟩ = some x → w3.cell? ⟨c, o, none⟩ = some x := fun h => (hb.cell (p := ⟨_, _, none⟩) (World.block_lt_of_cell? _ _ h)).trans h
  exact ⟨k h.1, k h.2.1, k h.2.2⟩
set_option maxHeartbeats 8000000 in
set_option maxRecDepth 100000 in
theorem cbools_in (k n : Int) (s0 s : ByteArray) (is g t : Bool) (nb ni : Int) (w : World) (HG : Hid (Gl w)) (AW : Hid (∀ W, Gl W → Calls Tryd.prog 12 #[] W fun e w' => e = .returned (.bool true) ∧ Below W.heap.size W w'))
    (C1 : Hid (∀ W, Calls Tryd.prog 10 #[.agg #[.int .i64 k, .int .i64 n, .string s0]] W fun e w' => e = .returned (.agg #[.int .i64 k, .int .i64 n, .string s]) ∧ Below W.heap.size W w'))
    (G1 : Hid (∀ W, Calls Tryd.prog 13 #[.agg #[.int .i64 k, .int .i64 n, .string s]] W fun e w' => e = .returned (.bool g) ∧ Below W.heap.size W w'))
    (T1 : Hid (∀ W, Calls Tryd.prog 19 #[.agg #[.int .i64 k, .int .i64 n, .string s]] W fun e w' => e = .returned (.bool t) ∧ Below W.heap.size W w'))
    (B1c : Hid (∀ W, Calls Tryd.prog 28 #[.bool t] W fun e w' => e = .returned (.agg #[.int .i64 1, .int .i64 nb, .string ⟨#[]⟩]) ∧ Below W.heap.size W w'))
    (B2c : Hid (∀ W, Calls Tryd.prog 28 #[.bool is] W fun e w' => e = .returned (.agg #[.int .i64 1, .int .i64 ni, .string ⟨#[]⟩]) ∧ Below W.heap.size W w'))
    (T2 : Hid (∀ W, Calls Tryd.prog 19 #[.agg #[.int .i64 1, .int .i64 ni, .string ⟨#[]⟩]] W fun e w' => e = .returned (.bool is) ∧ Below W.heap.size W w'))
    (T3 : Hid (∀ W, Calls Tryd.prog 19 #[.agg #[.int .i64 1, .int .i64 nb, .string ⟨#[]⟩]] W fun e w' => e = .returned (.bool t) ∧ Below W.heap.size W w'))
    (N3 : Hid (∀ W, Calls Tryd.prog 15 #[.agg #[.int .i64 1, .int .i64 nb, .string ⟨#[]⟩]] W fun e w' => e = .returned (.int .i64 nb) ∧ Below W.heap.size W w'))
    (N1 : k ≠ 2 → Hid (∀ W, Calls Tryd.prog 15 #[.agg #[.int .i64 k, .int .i64 n, .string s]] W fun e w' => e = .returned (.int .i64 n) ∧ Below W.heap.size W w'))
    (hnb : (nb == 1000000) = t) (ht : k ≠ 2 → (!(n == 0)) = t) :
    Calls Tryd.prog 9 #[.agg #[.int .i64 k, .int .i64 n, .string s0], .bool is] w fun e w' => e = .returned (.bool true) ∧ Below w.heap.size w w' := by
  go_enter Tryd.func9, Tryd.ntmps9
  go_wp2_with fail
  refine (C1.out _).mono ?_
  rintro e w1 ⟨rfl, hb1⟩
  obtain ⟨hc, hf⟩ := bcell hb1
  have hs3 := set3_at hb1 (.int .i64 k) (.int .i64 n) (.string s)
  have hb2 := below_set3 (below_new hb1) (.int .i64 k) (.int .i64 n) (.string s)
  clear hb1
  go_wp2_with fail
  clear hc hf
  generalize (((w1.setCell ⟨w.heap.size, 0, none⟩ (.int .i64 k)).setCell ⟨w.heap.size, 1, none⟩ (.int .i64 n)).setCell ⟨w.heap.size, 2, none⟩ (.string s)) = w2 at *
  refine (G1.out _).mono ?_
  rintro e w3 ⟨rfl, hb3⟩
  have hs4 := keep3 hs3 hb3
  have HB3 := Lib.hid (hb2.trans (hb3.mono hb2.size))
  clear hs3 hb2 hb3
  cases g
  · clear N1 ht
    go_wp2_with fail
    refine (AW.out _ (HG.out.next HB3.out)).mono ?_
    rintro e w4 ⟨rfl, hb4⟩
    have HB4 := Lib.hid (HB3.out.trans (hb4.mono HB3.out.size))
    clear hb4
    go_wp2_with fail
    go_ret
    exact ⟨rfl, HB4.out⟩
  · obtain ⟨h40, h41, h42⟩ := hs4
    go_wp2_with fail
    refine (T1.out _).mono ?_
    rintro e w4 ⟨rfl, hb4⟩
    have hs5 := keep3 ⟨h40, h41, h42⟩ hb4
    have HB4 := Lib.hid (HB3.out.trans (hb4.mono HB3.out.size))
    clear hb4 h40 h41 h42 HB3
    go_wp2_with fail
    refine (B1c.out _).mono ?_
    rintro e w5 ⟨rfl, hb5⟩
    have hs6 := keep3 hs5 hb5
    have HB5 := Lib.hid (HB4.out.trans (hb5.mono HB4.out.size))
    clear hb5 hs5 HB4
    obtain ⟨h60, h61, h62⟩ := hs6
    go_wp2_with fail
    generalize hX : Obj.cells #[Value.int .i64 1, Value.int .i64 nb, Value.string ⟨#[]⟩] 24 = X
    obtain ⟨B1, hB1⟩ : ∃ B, w.heap.size = B := ⟨_, rfl⟩
    obtain ⟨B2, hB2⟩ : ∃ B, w5.heap.size = B := ⟨_, rfl⟩
    have hlt : B1 < B2 := by rw [← hB1, ← hB2]; exact World.block_lt_of_cell? _ _ h60
    rw [hB1] at h60 h61 h62
    have hs : (w5.alloc X).cell? ⟨B1, 0, none⟩ = some (.int .i64 k) ∧ (w5.alloc X).cell? ⟨B1, 1, none⟩ = some (.int .i64 n) ∧ (w5.alloc X).cell? ⟨B1, 2, none⟩ = some (.string s) ∧ (w5.alloc X).cell? ⟨B2, 0, none⟩ = some (.int .i64 1) ∧ (w5.alloc X).cell? ⟨B2, 1, none⟩ = some (.int .i64 nb) ∧ (w5.alloc X).cell? ⟨B2, 2, none⟩ = some (.string ⟨#[]⟩) ∧ Below w.heap.size w (w5.alloc X) := by
      rw [← hX, ← hB2]
      rw [← hB2] at hlt
      refine ⟨by simp [go_sem, h60, hlt], by simp [go_sem, h61, hlt], by simp [go_sem, h62, hlt], by simp [go_sem], by simp [go_sem], by simp [go_sem], HB5.out.alloc HB5.out.size _⟩
    clear hX h60 h61 h62
    rw [hB2, hB1]
    clear HB5
    generalize w5.alloc X = w0 at *
    clear hB1 hB2
    by_cases hk : k = 2
    · subst hk
      clear N1 ht
      refine wp_region_held_drew (S := fun w' => w'.cell? ⟨B1, 0, none⟩ = some (.int .i64 2) ∧ w'.cell? ⟨B1, 1, none⟩ = some (.int .i64 n) ∧ w'.cell? ⟨B1, 2, none⟩ = some (.string s) ∧ w'.cell? ⟨B2, 0, none⟩ = some (.int .i64 1) ∧ w'.cell? ⟨B2, 1, none⟩ = some (.int .i64 nb) ∧ w'.cell? ⟨B2, 2, none⟩ = some (.string ⟨#[]⟩) ∧ Below w.heap.size w w') (by kernel_rfl) (draw6 hs) (fun hHeld => ?_)
      refine wpAnyH_ready (rs := [0]) (by kernel_rfl) (by simp) ?_
      refine AllReadyH.cons (o := _) rfl (fun K hK => ?_) AllReadyH.nil
      go_simp
      refine (AW.out _ (HG.out.next (below6 hHeld))).mono ?_
      rintro e w8 ⟨rfl, hb8⟩
      refine hK.out _ _ (keep6 hHeld hb8) (fun hHeld => ?_)
      clear hK K
      try simp only [List.getElem_toArray, List.getElem_cons_zero, List.getElem_cons_succ, Act.put, List.setIfInBounds_toArray, List.set_cons_zero, List.set_cons_succ]
      refine wpAnyH_take (i := 1) (oi := _) (v := ?_) rfl (by kernel_rfl) (by kernel_rfl) (by kernel_rfl) (fun _ _ _ h => h) (Or.inl ⟨by rfl, ?_⟩) (by assumption) ?_
      rotate_left
      · (intro w hSw; (try dsimp only at hSw); go_simp; try with_reducible rfl)
      try simp only [List.getElem_toArray, List.getElem_cons_zero, List.getElem_cons_succ, Act.put, List.setIfInBounds_toArray, List.set_cons_zero, List.set_cons_succ]
      refine wpAnyH_take (i := 2) (oi := _) (v := ?_) rfl (by kernel_rfl) (by kernel_rfl) (by kernel_rfl) (fun _ _ _ h => h) (Or.inl ⟨by rfl, ?_⟩) (by assumption) ?_
      rotate_left
      · (intro w hSw; (try dsimp only at hSw); go_simp; try with_reducible rfl)
      try simp only [List.getElem_toArray, List.getElem_cons_zero, List.getElem_cons_succ, Act.put, List.setIfInBounds_toArray, List.set_cons_zero, List.set_cons_succ]
      refine wpAnyH_take (i := 5) (oi := _) (v := ?_) rfl (by kernel_rfl) (by kernel_rfl) (by kernel_rfl) (fun _ _ _ h => h) (Or.inl ⟨by rfl, ?_⟩) (by assumption) ?_
      rotate_left
      · (intro w hSw; (try dsimp only at hSw); go_simp; try with_reducible rfl)
      try simp only [List.getElem_toArray, List.getElem_cons_zero, List.getElem_cons_succ, Act.put, List.setIfInBounds_toArray, List.set_cons_zero, List.set_cons_succ]
      refine wpAnyH_ready (rs := [3]) (by kernel_rfl) (by simp) ?_
      refine AllReadyH.cons (o := _) rfl (fun K hK => ?_) AllReadyH.nil
      go_simp
      refine (B2c.out _).mono ?_
      rintro e w8 ⟨rfl, hb8⟩
      refine hK.out _ _ (keep6 hHeld hb8) (fun hHeld => ?_)
      clear hK K
      try simp only [List.getElem_toArray, List.getElem_cons_zero, List.getElem_cons_succ, Act.put, List.setIfInBounds_toArray, List.set_cons_zero, List.set_cons_succ]
      refine wpAnyH_ready (rs := [4]) (by kernel_rfl) (by simp) ?_
      refine AllReadyH.cons (o := _) rfl (fun K hK => ?_) AllReadyH.nil
      go_simp
      refine (T2.out _).mono ?_
      rintro e w8 ⟨rfl, hb8⟩
      refine hK.out _ _ (keep6 hHeld hb8) (fun hHeld => ?_)
      clear hK K
      try simp only [List.getElem_toArray, List.getElem_cons_zero, List.getElem_cons_succ, Act.put, List.setIfInBounds_toArray, List.set_cons_zero, List.set_cons_succ]
      refine wpAnyH_take (i := 6) (oi := _) (v := ?_) rfl (by kernel_rfl) (by kernel_rfl) (by kernel_rfl) (fun _ _ _ h => h) (Or.inl ⟨by rfl, ?_⟩) (by assumption) ?_
      rotate_left
      · (intro w hSw; (try dsimp only at hSw); go_simp; try with_reducible rfl)
      try simp only [List.getElem_toArray, List.getElem_cons_zero, List.getElem_cons_succ, Act.put, List.setIfInBounds_toArray, List.set_cons_zero, List.set_cons_succ]
      refine wpAnyH_take (i := 7) (oi := _) (v := ?_) rfl (by kernel_rfl) (by kernel_rfl) (by kernel_rfl) (fun _ _ _ h => h) (Or.inl ⟨by rfl, ?_⟩) (by assumption) ?_
      rotate_left
      · (intro w hSw; (try dsimp only at hSw); go_simp; try with_reducible rfl)
      try simp only [List.getElem_toArray, List.getElem_cons_zero, List.getElem_cons_succ, Act.put, List.setIfInBounds_toArray, List.set_cons_zero, List.set_cons_succ]
      refine wpAnyH_take (i := 8) (oi := _) (v := ?_) rfl (by kernel_rfl) (by kernel_rfl) (by kernel_rfl) (fun _ _ _ h => h) (Or.inl ⟨by rfl, ?_⟩) (by assumption) ?_
      rotate_left
      · (intro w hSw; (try dsimp only at hSw); go_simp; try with_reducible rfl)
      try simp only [List.getElem_toArray, List.getElem_cons_zero, List.getElem_cons_succ, Act.put, List.setIfInBounds_toArray, List.set_cons_zero, List.set_cons_succ]
      refine wpAnyH_take (i := 9) (oi := _) (v := ?_) rfl (by kernel_rfl) (by kernel_rfl) (by kernel_rfl) (fun _ _ _ h => h) (Or.inl ⟨by rfl, ?_⟩) (by assumption) ?_
      rotate_left
      · (intro w hSw; (try dsimp only at hSw); go_simp; try with_reducible rfl)
      try simp only [List.getElem_toArray, List.getElem_cons_zero, List.getElem_cons_succ, Act.put, List.setIfInBounds_toArray, List.set_cons_zero, List.set_cons_succ]
      refine wpAnyH_take (i := 11) (oi := _) (v := ?_) rfl (by kernel_rfl) (by kernel_rfl) (by kernel_rfl) (fun _ _ _ h => h) (Or.inl ⟨by rfl, ?_⟩) (by assumption) ?_
      rotate_left
      · (intro w hSw; (try dsimp only at hSw); go_simp; try with_reducible rfl)
      try simp only [List.getElem_toArray, List.getElem_cons_zero, List.getElem_cons_succ, Act.put, List.setIfInBounds_toArray, List.set_cons_zero, List.set_cons_succ]
      refine wpAnyH_ready (rs := [10]) (by kernel_rfl) (by simp) ?_
      refine AllReadyH.cons (o := _) rfl (fun K hK => ?_) AllReadyH.nil
      go_simp
      refine (T3.out _).mono ?_
      rintro e w8 ⟨rfl, hb8⟩
      refine hK.out _ _ (keep6 hHeld hb8) (fun hHeld => ?_)
      clear hK K
      try simp only [List.getElem_toArray, List.getElem_cons_zero, List.getElem_cons_succ, Act.put, List.setIfInBounds_toArray, List.set_cons_zero, List.set_cons_succ]
      refine wpAnyH_ready (rs := [12]) (by kernel_rfl) (by simp) ?_
      refine AllReadyH.cons (o := _) rfl (fun K hK => ?_) AllReadyH.nil
      go_simp
      refine (T1.out _).mono ?_
      rintro e w8 ⟨rfl, hb8⟩
      refine hK.out _ _ (keep6 hHeld hb8) (fun hHeld => ?_)
      clear hK K
      try simp only [List.getElem_toArray, List.getElem_cons_zero, List.getElem_cons_succ, Act.put, List.setIfInBounds_toArray, List.set_cons_zero, List.set_cons_succ]
      refine wpAnyH_take (i := 13) (oi := _) (v := ?_) rfl (by kernel_rfl) (by kernel_rfl) (by kernel_rfl) (fun _ _ _ h => h) (Or.inl ⟨by rfl, ?_⟩) (by assumption) ?_
      rotate_left
      · (intro w hSw; (try dsimp only at hSw); go_simp; try with_reducible rfl)
      try simp only [List.getElem_toArray, List.getElem_cons_zero, List.getElem_cons_succ, Act.put, List.setIfInBounds_toArray, List.set_cons_zero, List.set_cons_succ]
      refine wpAnyH_take (i := 14) (oi := _) (v := ?_) rfl (by kernel_rfl) (by kernel_rfl) (by kernel_rfl) (fun _ _ _ h => h) (Or.inl ⟨by rfl, ?_⟩) (by assumption) ?_
      rotate_left
      · (intro w hSw; (try dsimp only at hSw); go_simp; try with_reducible rfl)
      try simp only [List.getElem_toArray, List.getElem_cons_zero, List.getElem_cons_succ, Act.put, List.setIfInBounds_toArray, List.set_cons_zero, List.set_cons_succ]
      refine wpAnyH_take (i := 15) (oi := _) (v := ?_) rfl (by kernel_rfl) (by kernel_rfl) (by kernel_rfl) (fun _ _ _ h => h) (Or.inl ⟨by rfl, ?_⟩) (by assumption) ?_
      rotate_left
      · (intro w hSw; (try dsimp only at hSw); go_simp; try with_reducible rfl)
      try simp only [List.getElem_toArray, List.getElem_cons_zero, List.getElem_cons_succ, Act.put, List.setIfInBounds_toArray, List.set_cons_zero, List.set_cons_succ]
      refine wpAnyH_take (i := 16) (oi := _) (v := ?_) rfl (by kernel_rfl) (by kernel_rfl) (by kernel_rfl) (fun _ _ _ h => h) (Or.inl ⟨by rfl, ?_⟩) (by assumption) ?_
      rotate_left
      · (intro w hSw; (try dsimp only at hSw); go_simp; try with_reducible rfl)
      try simp only [List.getElem_toArray, List.getElem_cons_zero, List.getElem_cons_succ, Act.put, List.setIfInBounds_toArray, List.set_cons_zero, List.set_cons_succ]
      refine wpAnyH_take (i := 19) (oi := _) (v := ?_) rfl (by kernel_rfl) (by kernel_rfl) (by kernel_rfl) (fun _ _ _ h => h) (Or.inl ⟨by rfl, ?_⟩) (by assumption) ?_
      rotate_left
      · (intro w hSw; (try dsimp only at hSw); go_simp; try with_reducible rfl)
      try simp only [List.getElem_toArray, List.getElem_cons_zero, List.getElem_cons_succ, Act.put, List.setIfInBounds_toArray, List.set_cons_zero, List.set_cons_succ]
      refine wpAnyH_ready (rs := [17]) (by kernel_rfl) (by simp) ?_
      refine AllReadyH.cons (o := _) rfl (fun K hK => ?_) AllReadyH.nil
      go_simp
      refine (N3.out _).mono ?_
      rintro e w8 ⟨rfl, hb8⟩
      refine hK.out _ _ (keep6 hHeld hb8) (fun hHeld => ?_)
      clear hK K
      try simp only [List.getElem_toArray, List.getElem_cons_zero, List.getElem_cons_succ, Act.put, List.setIfInBounds_toArray, List.set_cons_zero, List.set_cons_succ]
      refine wpAnyH_take (i := 18) (oi := _) (v := ?_) rfl (by kernel_rfl) (by kernel_rfl) (by kernel_rfl) (fun _ _ _ h => h) (Or.inl ⟨by rfl, ?_⟩) (by assumption) ?_
      rotate_left
      · (intro w hSw; (try dsimp only at hSw); go_simp; try with_reducible rfl)
      try simp only [List.getElem_toArray, List.getElem_cons_zero, List.getElem_cons_succ, Act.put, List.setIfInBounds_toArray, List.set_cons_zero, List.set_cons_succ]
      refine wpAnyH_ready (rs := [20]) (by kernel_rfl) (by simp) ?_
      refine AllReadyH.cons (o := _) rfl (fun K hK => ?_) AllReadyH.nil
      go_simp
      refine (T1.out _).mono ?_
      rintro e w8 ⟨rfl, hb8⟩
      refine hK.out _ _ (keep6 hHeld hb8) (fun hHeld => ?_)
      clear hK K
      try simp only [List.getElem_toArray, List.getElem_cons_zero, List.getElem_cons_succ, Act.put, List.setIfInBounds_toArray, List.set_cons_zero, List.set_cons_succ]
      refine wpAnyH_take (i := 21) (oi := _) (v := ?_) rfl (by kernel_rfl) (by kernel_rfl) (by kernel_rfl) (fun _ _ _ h => h) (Or.inl ⟨by rfl, ?_⟩) (by assumption) ?_
      rotate_left
      · (intro w hSw; (try dsimp only at hSw); go_simp; try with_reducible rfl)
      try simp only [List.getElem_toArray, List.getElem_cons_zero, List.getElem_cons_succ, Act.put, List.setIfInBounds_toArray, List.set_cons_zero, List.set_cons_succ]
      refine wpAnyH_take (i := 22) (oi := _) (v := ?_) rfl (by kernel_rfl) (by kernel_rfl) (by kernel_rfl) (fun _ _ _ h => h) (Or.inl ⟨by rfl, ?_⟩) (by assumption) ?_
      rotate_left
      · (intro w hSw; (try dsimp only at hSw); go_simp; try with_reducible rfl)
      try simp only [List.getElem_toArray, List.getElem_cons_zero, List.getElem_cons_succ, Act.put, List.setIfInBounds_toArray, List.set_cons_zero, List.set_cons_succ]
      refine wpAnyH_take (i := 23) (oi := _) (v := ?_) rfl (by kernel_rfl) (by kernel_rfl) (by kernel_rfl) (fun _ _ _ h => h) (Or.inl ⟨by rfl, ?_⟩) (by assumption) ?_
      rotate_left
      · (intro w hSw; (try dsimp only at hSw); go_simp; try with_reducible rfl)
      try simp only [List.getElem_toArray, List.getElem_cons_zero, List.getElem_cons_succ, Act.put, List.setIfInBounds_toArray, List.set_cons_zero, List.set_cons_succ]
      refine wpAnyH_take (i := 24) (oi := _) (v := ?_) rfl (by kernel_rfl) (by kernel_rfl) (by kernel_rfl) (fun _ _ _ h => h) (Or.inl ⟨by rfl, ?_⟩) (by assumption) ?_
      rotate_left
      · (intro w hSw; (try dsimp only at hSw); go_simp; try with_reducible rfl)
      try simp only [List.getElem_toArray, List.getElem_cons_zero, List.getElem_cons_succ, Act.put, List.setIfInBounds_toArray, List.set_cons_zero, List.set_cons_succ]
      refine wpAnyH_take (i := 25) (oi := _) (v := ?_) rfl (by kernel_rfl) (by kernel_rfl) (by kernel_rfl) (fun _ _ _ h => h) (Or.inl ⟨by rfl, ?_⟩) (by assumption) ?_
      rotate_left
      · (intro w hSw; (try dsimp only at hSw); go_simp; try with_reducible rfl)
      try simp only [List.getElem_toArray, List.getElem_cons_zero, List.getElem_cons_succ, Act.put, List.setIfInBounds_toArray, List.set_cons_zero, List.set_cons_succ]
      refine wpAnyH_take (i := 26) (oi := _) (v := ?_) rfl (by kernel_rfl) (by kernel_rfl) (by kernel_rfl) (fun _ _ _ h => h) (Or.inl ⟨by rfl, ?_⟩) (by assumption) ?_
      rotate_left
      · (intro w hSw; (try dsimp only at hSw); go_simp; try with_reducible rfl)
      try simp only [List.getElem_toArray, List.getElem_cons_zero, List.getElem_cons_succ, Act.put, List.setIfInBounds_toArray, List.set_cons_zero, List.set_cons_succ]
      refine wpAnyH_take (i := 27) (oi := _) (v := ?_) rfl (by kernel_rfl) (by kernel_rfl) (by kernel_rfl) (fun _ _ _ h => h) (Or.inl ⟨by rfl, ?_⟩) (by assumption) ?_
      rotate_left
      · (intro w hSw; (try dsimp only at hSw); go_simp; try with_reducible rfl)
      try simp only [List.getElem_toArray, List.getElem_cons_zero, List.getElem_cons_succ, Act.put, List.setIfInBounds_toArray, List.set_cons_zero, List.set_cons_succ]
      refine wpAnyH_take (i := 28) (oi := _) (v := undef) rfl (by kernel_rfl) (by kernel_rfl) (by kernel_rfl) (fun _ _ _ h => h) (Or.inr ⟨by rfl, rfl⟩) (by assumption) ?_
      try simp only [List.getElem_toArray, List.getElem_cons_zero, List.getElem_cons_succ, Act.put, List.setIfInBounds_toArray, List.set_cons_zero, List.set_cons_succ]
      refine wpAnyH_take (i := 30) (oi := _) (v := undef) rfl (by kernel_rfl) (by kernel_rfl) (by kernel_rfl) (fun _ _ _ h => h) (Or.inr ⟨by rfl, rfl⟩) (by assumption) ?_
      try simp only [List.getElem_toArray, List.getElem_cons_zero, List.getElem_cons_succ, Act.put, List.setIfInBounds_toArray, List.set_cons_zero, List.set_cons_succ]
      refine wpAnyH_take (i := 29) (oi := _) (v := undef) rfl (by kernel_rfl) (by kernel_rfl) (by kernel_rfl) (fun _ _ _ h => h) (Or.inr ⟨by rfl, rfl⟩) (by assumption) ?_
      try simp only [List.getElem_toArray, List.getElem_cons_zero, List.getElem_cons_succ, Act.put, List.setIfInBounds_toArray, List.set_cons_zero, List.set_cons_succ]
      refine wpAnyH_take (i := 31) (oi := _) (v := undef) rfl (by kernel_rfl) (by kernel_rfl) (by kernel_rfl) (fun _ _ _ h => h) (Or.inr ⟨by rfl, rfl⟩) (by assumption) ?_
      try simp only [List.getElem_toArray, List.getElem_cons_zero, List.getElem_cons_succ, Act.put, List.setIfInBounds_toArray, List.set_cons_zero, List.set_cons_succ]
      refine wpAnyH_take (i := 32) (oi := _) (v := undef) rfl (by kernel_rfl) (by kernel_rfl) (by kernel_rfl) (fun _ _ _ h => h) (Or.inr ⟨by rfl, rfl⟩) (by assumption) ?_
      try simp only [List.getElem_toArray, List.getElem_cons_zero, List.getElem_cons_succ, Act.put, List.setIfInBounds_toArray, List.set_cons_zero, List.set_cons_succ]
      refine wpAnyH_take (i := 33) (oi := _) (v := undef) rfl (by kernel_rfl) (by kernel_rfl) (by kernel_rfl) (fun _ _ _ h => h) (Or.inr ⟨by rfl, rfl⟩) (by assumption) ?_
      try simp only [List.getElem_toArray, List.getElem_cons_zero, List.getElem_cons_succ, Act.put, List.setIfInBounds_toArray, List.set_cons_zero, List.set_cons_succ]
      refine wpAnyH_take (i := 34) (oi := _) (v := ?_) rfl (by kernel_rfl) (by kernel_rfl) (by kernel_rfl) (fun _ _ _ h => h) (Or.inl ⟨by rfl, ?_⟩) (by assumption) ?_
      rotate_left
      · (intro w hSw; (try dsimp only at hSw); go_simp; try with_reducible rfl)
      try simp only [List.getElem_toArray, List.getElem_cons_zero, List.getElem_cons_succ, Act.put, List.setIfInBounds_toArray, List.set_cons_zero, List.set_cons_succ]
      refine wpAnyH_take (i := 35) (oi := _) (v := ?_) rfl (by kernel_rfl) (by kernel_rfl) (by kernel_rfl) (fun _ _ _ h => h) (Or.inl ⟨by rfl, ?_⟩) (by assumption) ?_
      rotate_left
      · (intro w hSw; (try dsimp only at hSw); go_simp; try with_reducible rfl)
      try simp only [List.getElem_toArray, List.getElem_cons_zero, List.getElem_cons_succ, Act.put, List.setIfInBounds_toArray, List.set_cons_zero, List.set_cons_succ]
      refine wpAnyH_take (i := 36) (oi := _) (v := ?_) rfl (by kernel_rfl) (by kernel_rfl) (by kernel_rfl) (fun _ _ _ h => h) (Or.inl ⟨by rfl, ?_⟩) (by assumption) ?_
      rotate_left
      · (intro w hSw; (try dsimp only at hSw); go_simp; try with_reducible rfl)
      try simp only [List.getElem_toArray, List.getElem_cons_zero, List.getElem_cons_succ, Act.put, List.setIfInBounds_toArray, List.set_cons_zero, List.set_cons_succ]
      refine wpAnyH_done (by kernel_rfl) ?_ _
      have HB9 : Hid (Below w.heap.size w w8) := Lib.hid (below6 (by assumption))
      go_wp2_with fail
      go_ret
      exact ⟨rfl, HB9.out⟩
    · have N1 := N1 hk
      have ht := ht hk
      have hk' : (k == 2) = false := by simpa using hk
      go_region_held3 (fun w' => w'.cell? ⟨B1, 0, none⟩ = some (.int .i64 k) ∧ w'.cell? ⟨B1, 1, none⟩ = some (.int .i64 n) ∧ w'.cell? ⟨B1, 2, none⟩ = some (.string s) ∧ w'.cell? ⟨B2, 0, none⟩ = some (.int .i64 1) ∧ w'.cell? ⟨B2, 1, none⟩ = some (.int .i64 nb) ∧ w'.cell? ⟨B2, 2, none⟩ = some (.string ⟨#[]⟩) ∧ Below w.heap.size w w') (first | assumption | exact draw6 (by assumption) | go_keep) (first
      | ((with_reducible refine (AW.out _ (HG.out.next (below6 (by assumption)))).mono ?_); rintro e w8 ⟨rfl, hb8⟩; have k8 := keep6 (by assumption) hb8)
      | ((with_reducible refine (T1.out _).mono ?_); rintro e w8 ⟨rfl, hb8⟩; have k8 := keep6 (by assumption) hb8)
      | ((with_reducible refine (B2c.out _).mono ?_); rintro e w8 ⟨rfl, hb8⟩; have k8 := keep6 (by assumption) hb8)
      | ((with_reducible refine (T2.out _).mono ?_); rintro e w8 ⟨rfl, hb8⟩; have k8 := keep6 (by assumption) hb8)
      | ((with_reducible refine (T3.out _).mono ?_); rintro e w8 ⟨rfl, hb8⟩; have k8 := keep6 (by assumption) hb8)
      | ((with_reducible refine (N3.out _).mono ?_); rintro e w8 ⟨rfl, hb8⟩; have k8 := keep6 (by assumption) hb8)
      | ((with_reducible refine (N1.out _).mono ?_); rintro e w8 ⟨rfl, hb8⟩; have k8 := keep6 (by assumption) hb8))
      all_goals
        have HB9 : Hid (Below w.heap.size w w8) := Lib.hid (below6 (by assumption))
        go_wp2_with fail
        go_ret
        refine ⟨?_, HB9.out⟩
        first | rfl | (simp; done) | (simp; exact ht.symm)
theorem cbools_walk (k n : Int) (s0 : ByteArray) (is : Bool) (hs0 : s0.size ≤ maxLen) (w : World) (G : Gl w) :
    Calls Tryd.prog 9 #[cv k n s0, .bool is] w fun e w' => e = .returned (.bool true) ∧ Below w.heap.size w w' := by
  have hs := cutB_size s0 100
  have C1 := Lib.hid fun W => lcut_any k n s0 W hs0
  generalize cutB s0 100 = s at *
  obtain ⟨g, _, G1⟩ : ∃ g : Bool, True ∧ ∀ W, Calls Tryd.prog 13 #[cv k n s] W fun e w' => e = .returned (.bool g) ∧ Below W.heap.size W w' := by
    by_cases h : GoodC k n s
    · refine ⟨true, trivial, fun W => ?_⟩
      obtain ⟨b, hb, hc⟩ := good_any k n s W (by omega)
      rw [hb.2 h] at hc; exact hc
    · refine ⟨false, trivial, fun W => ?_⟩
      obtain ⟨b, hb, hc⟩ := good_any k n s W (by omega)
      have : b = false := by cases b; · rfl
                             · exact absurd (hb.1 rfl) h
      rw [this] at hc; exact hc
  obtain ⟨t, ht⟩ : ∃ t, trueC k n s = t := ⟨_, rfl⟩
  have T1 := Lib.hid fun W => ctrue_any k n s W
  rw [ht] at T1
  have t2 : ∀ b : Bool, trueC 1 (if b then 1000000 else 0) ⟨#[]⟩ = b := fun b => by cases b <;> rfl
  refine cbools_in k n s0 s is g t (if t then 1000000 else 0) (if is then 1000000 else 0) w (Lib.hid G) (Lib.hid fun W G => cawake_any W G) C1 (Lib.hid G1) T1 (Lib.hid fun W => bool_any t W) (Lib.hid fun W => bool_any is W)
    (Lib.hid fun W => ?_) (Lib.hid fun W => ?_) (Lib.hid fun W => cnum_any 1 _ ⟨#[]⟩ W (by decide)) (fun hk => Lib.hid fun W => ?_) ?_ ?_
  · have h := ctrue_any 1 (if is then 1000000 else 0) ⟨#[]⟩ W
    rw [t2] at h; exact h
  · have h := ctrue_any 1 (if t then 1000000 else 0) ⟨#[]⟩ W
    rw [t2] at h; exact h
  · have h := cnum_any k n s W (by omega)
    unfold numC at h; rw [if_neg hk] at h; exact h
  · cases t <;> rfl
  · intro hk
    rw [← ht]; unfold trueC; rw [if_neg hk]
    by_cases h0 : n = 0 <;> simp [h0]
end Go.Proofs.YtajonlpohllheaaDoor
