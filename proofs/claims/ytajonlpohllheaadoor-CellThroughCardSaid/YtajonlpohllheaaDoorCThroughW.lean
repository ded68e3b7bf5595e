/-
  THE WALK of scribelaw06.CellThrough: under way.
-/
import Derived.Test.YtajonlpohllheaaDoorCOrdersW
import Derived.Test.YtajonlpohllheaaDoorCBoolsW
import Derived.Test.YtajonlpohllheaaDoorCTextsW
namespace Go.Proofs.YtajonlpohllheaaDoor
open Go.RowKit

set_option maxHeartbeats 8000000 in
set_option maxRecDepth 100000 in
theorem cthrough_in (k n : Int) (s0 s S : ByteArray) (g : Bool) (m bk bn c : Int) (w : World) (HG : Hid (Gl w)) (AW : Hid (∀ W, Gl W → Calls Tryd.prog 12 #[] W fun e w' => e = .returned (.bool true) ∧ Below W.heap.size W w'))
    (C1 : Hid (∀ W, Calls Tryd.prog 10 #[.agg #[.int .i64 k, .int .i64 n, .string s0]] W fun e w' => e = .returned (.agg #[.int .i64 k, .int .i64 n, .string s]) ∧ Below W.heap.size W w'))
    (G1 : Hid (∀ W, Calls Tryd.prog 13 #[.agg #[.int .i64 k, .int .i64 n, .string s]] W fun e w' => e = .returned (.bool g) ∧ Below W.heap.size W w'))
    (A1 : g = true → Hid (∀ W, Gl W → Calls Tryd.prog 17 #[.agg #[.int .i64 k, .int .i64 n, .string s]] W fun e w' => e = .returned (.string S) ∧ Below W.heap.size W w'))
    (T1 : g = true → Hid (∀ W, Calls Tryd.prog 26 #[.string S] W fun e w' => e = .returned (.agg #[.int .i64 2, .int .i64 0, .string S]) ∧ Below W.heap.size W w'))
    (I1 : g = true → Hid (∀ W, Calls Tryd.prog 24 #[.string S] W fun e w' => e = .returned (.agg #[.int .i64 bk, .int .i64 bn, .string S]) ∧ Below W.heap.size W w'))
    (N1 : g = true → Hid (∀ W, Calls Tryd.prog 15 #[.agg #[.int .i64 2, .int .i64 0, .string S]] W fun e w' => e = .returned (.int .i64 m) ∧ Below W.heap.size W w'))
    (P1 : g = true → Hid (∀ W, Gl W → Calls Tryd.prog 21 #[.agg #[.int .i64 bk, .int .i64 bn, .string S], .agg #[.int .i64 k, .int .i64 n, .string s]] W fun e w' => e = .returned (.int .i64 c) ∧ Below W.heap.size W w'))
    (S2 : g = true → Hid (∀ W, Gl W → Calls Tryd.prog 17 #[.agg #[.int .i64 2, .int .i64 0, .string S]] W fun e w' => e = .returned (.string S) ∧ Below W.heap.size W w'))
    (S3 : g = true → Hid (∀ W, Gl W → Calls Tryd.prog 17 #[.agg #[.int .i64 bk, .int .i64 bn, .string S]] W fun e w' => e = .returned (.string S) ∧ Below W.heap.size W w'))
    (G2 : g = true → Hid (∀ W, Calls Tryd.prog 13 #[.agg #[.int .i64 2, .int .i64 0, .string S]] W fun e w' => e = .returned (.bool true) ∧ Below W.heap.size W w'))
    (G3 : g = true → Hid (∀ W, Calls Tryd.prog 13 #[.agg #[.int .i64 bk, .int .i64 bn, .string S]] W fun e w' => e = .returned (.bool true) ∧ Below W.heap.size W w'))
    (hk1 : g = true → k = 1 → m = n ∧ bk = 3 ∧ bn = n ∧ c = 0) :
    Calls Tryd.prog 7 #[.agg #[.int .i64 k, .int .i64 n, .string s0]] w fun e w' => e = .returned (.bool true) ∧ Below w.heap.size w w' := by
  go_enter Tryd.func7, Tryd.ntmps7
  go_wp2_with fail
  refine (C1.out _).mono ?_
  rintro e w1 ⟨rfl, hb1⟩
  obtain ⟨hc, hf⟩ := bcell hb1
  have hs3 := set3_at hb1 (.int .i64 k) (.int .i64 n) (.string s)
  have hb2 := below_set3 (below_new hb1) (.int .i64 k) (.int .i64 n) (.string s)
  clear hb1
  go_wp2_with fail
  clear hc hf
  generalize (((w1.setCell ⟨w.heap.size, 0, none⟩ (.int .i64 k)).setCell ⟨w.heap.size, 1, none⟩ (.int .i64 n)).setCell ⟨w.heap.size, 2, none⟩ (.string s)) = w2 at *
  refine (G1.out _).mono ?_
  rintro e w3 ⟨rfl, hb3⟩
  have hs4 := keep3 hs3 hb3
  have HB3 := Lib.hid (hb2.trans (hb3.mono hb2.size))
  clear hs3 hb2 hb3
  cases g
  · clear A1 T1 I1 N1 P1 S2 S3 G2 G3 hk1
    go_wp2_with fail
    refine (AW.out _ (HG.out.next HB3.out)).mono ?_
    rintro e w4 ⟨rfl, hb4⟩
    have HB4 := Lib.hid (HB3.out.trans (hb4.mono HB3.out.size))
    clear hb4
    go_wp2_with fail
    go_ret
    exact ⟨rfl, HB4.out⟩
  replace hk1 := hk1 rfl
  replace A1 := A1 rfl
  replace T1 := T1 rfl
  replace I1 := I1 rfl
  replace N1 := N1 rfl
  replace P1 := P1 rfl
  replace S2 := S2 rfl
  replace S3 := S3 rfl
  replace G2 := G2 rfl
  replace G3 := G3 rfl
  clear C1 G1
  obtain ⟨h40, h41, h42⟩ := hs4
  go_wp2_with fail
  refine (A1.out _ (HG.out.next HB3.out)).mono ?_
  rintro e w4 ⟨rfl, hb4⟩
  have hs5 := keep3 ⟨h40, h41, h42⟩ hb4
  have HB4 := Lib.hid (HB3.out.trans (hb4.mono HB3.out.size))
  clear hb4 h40 h41 h42 HB3
  go_wp2_with fail
  refine (T1.out _).mono ?_
  rintro e w5 ⟨rfl, hb5⟩
  have hs6 := keep3 hs5 hb5
  have HB5 := Lib.hid (HB4.out.trans (hb5.mono HB4.out.size))
  clear hb5 hs5 HB4
  obtain ⟨h60, h61, h62⟩ := hs6
  have hlt : w.heap.size < w5.heap.size := World.block_lt_of_cell? _ _ h60
  go_wp2_with fail
  generalize hX : Obj.cells #[Value.int .i64 2, Value.int .i64 0, Value.string S] 24 = X
  obtain ⟨A, hA⟩ : ∃ B, w.heap.size = B := ⟨_, rfl⟩
  obtain ⟨B, hB⟩ : ∃ B, w5.heap.size = B := ⟨_, rfl⟩
  rw [hA] at h60 h61 h62
  rw [hA] at hlt
  have hs : (w5.alloc X).cell? ⟨A, 0, none⟩ = some (.int .i64 k) ∧ (w5.alloc X).cell? ⟨A, 1, none⟩ = some (.int .i64 n) ∧ (w5.alloc X).cell? ⟨A, 2, none⟩ = some (.string s) ∧ (w5.alloc X).cell? ⟨B, 0, none⟩ = some (.int .i64 2) ∧ (w5.alloc X).cell? ⟨B, 1, none⟩ = some (.int .i64 0) ∧ (w5.alloc X).cell? ⟨B, 2, none⟩ = some (.string S) ∧ Below w.heap.size w (w5.alloc X) := by
    rw [← hX, ← hB]
    refine ⟨by simp [go_sem, h60, hlt], by simp [go_sem, h61, hlt], by simp [go_sem, h62, hlt], by simp [go_sem], by simp [go_sem], by simp [go_sem], HB5.out.alloc HB5.out.size _⟩
  clear hX h60 h61 h62
  rw [hB, hA]
  clear HB5 hlt
  generalize w5.alloc X = w0 at *
  clear hA hB
  refine (A1.out _ (HG.out.next (below6 hs))).mono ?_
  rintro e w6 ⟨rfl, hb6⟩
  have hs := keep6 hs hb6
  clear hb6
  obtain ⟨h1, h2, h3, h4, h5, h6, hbl⟩ := id hs
  go_wp2_with fail
  refine (I1.out _).mono ?_
  rintro e w7 ⟨rfl, hb7⟩
  have hs := keep6 hs hb7
  clear hb7 h1 h2 h3 h4 h5 h6 hbl
  obtain ⟨h1, h2, h3, h4, h5, h6, hbl⟩ := id hs
  have hl1 : A < w7.heap.size := World.block_lt_of_cell? _ _ h1
  have hl2 : B < w7.heap.size := World.block_lt_of_cell? _ _ h4
  go_wp2_with fail
  generalize hY : Obj.cells #[Value.int .i64 bk, Value.int .i64 bn, Value.string S] 24 = Y
  obtain ⟨C, hC⟩ : ∃ B, w7.heap.size = B := ⟨_, rfl⟩
  have hs : (w7.alloc Y).cell? ⟨A, 0, none⟩ = some (.int .i64 k) ∧ (w7.alloc Y).cell? ⟨A, 1, none⟩ = some (.int .i64 n) ∧ (w7.alloc Y).cell? ⟨A, 2, none⟩ = some (.string s) ∧ (w7.alloc Y).cell? ⟨B, 0, none⟩ = some (.int .i64 2) ∧ (w7.alloc Y).cell? ⟨B, 1, none⟩ = some (.int .i64 0) ∧ (w7.alloc Y).cell? ⟨B, 2, none⟩ = some (.string S) ∧ (w7.alloc Y).cell? ⟨C, 0, none⟩ = some (.int .i64 bk) ∧ (w7.alloc Y).cell? ⟨C, 1, none⟩ = some (.int .i64 bn) ∧ (w7.alloc Y).cell? ⟨C, 2, none⟩ = some (.string S) ∧ Below w.heap.size w (w7.alloc Y) := by
    rw [← hY, ← hC]
    refine ⟨by simp [go_sem, h1, hl1], by simp [go_sem, h2, hl1], by simp [go_sem, h3, hl1], by simp [go_sem, h4, hl2], by simp [go_sem, h5, hl2], by simp [go_sem, h6, hl2], by simp [go_sem], by simp [go_sem], by simp [go_sem], hbl.alloc hbl.size _⟩
  clear hY h1 h2 h3 h4 h5 h6 hbl hl1 hl2
  rw [hC]
  generalize w7.alloc Y = w9 at *
  clear hC
  by_cases hk : k = 1
  · subst hk
    obtain ⟨rfl, rfl, rfl, rfl⟩ := hk1 rfl
    clear hk1
    go_region_held3 (fun w' => w'.cell? ⟨A, 0, none⟩ = some (.int .i64 1) ∧ w'.cell? ⟨A, 1, none⟩ = some (.int .i64 bn) ∧ w'.cell? ⟨A, 2, none⟩ = some (.string s) ∧ w'.cell? ⟨B, 0, none⟩ = some (.int .i64 2) ∧ w'.cell? ⟨B, 1, none⟩ = some (.int .i64 0) ∧ w'.cell? ⟨B, 2, none⟩ = some (.string S) ∧ w'.cell? ⟨C, 0, none⟩ = some (.int .i64 3) ∧ w'.cell? ⟨C, 1, none⟩ = some (.int .i64 bn) ∧ w'.cell? ⟨C, 2, none⟩ = some (.string S) ∧ Below w.heap.size w w') (first | assumption | exact draw9 (by assumption) | go_keep) (first
      | ((with_reducible refine (N1.out _).mono ?_); rintro e w8 ⟨rfl, hb8⟩; have k8 := keep9 (by assumption) hb8)
      | ((with_reducible refine (P1.out _ (HG.out.next (below9 (by assumption)))).mono ?_); rintro e w8 ⟨rfl, hb8⟩; have k8 := keep9 (by assumption) hb8))
    all_goals
      have hs : w8.cell? ⟨A, 0, none⟩ = some (.int .i64 1) ∧ w8.cell? ⟨A, 1, none⟩ = some (.int .i64 bn) ∧ w8.cell? ⟨A, 2, none⟩ = some (.string s) ∧ w8.cell? ⟨B, 0, none⟩ = some (.int .i64 2) ∧ w8.cell? ⟨B, 1, none⟩ = some (.int .i64 0) ∧ w8.cell? ⟨B, 2, none⟩ = some (.string S) ∧ w8.cell? ⟨C, 0, none⟩ = some (.int .i64 3) ∧ w8.cell? ⟨C, 1, none⟩ = some (.int .i64 bn) ∧ w8.cell? ⟨C, 2, none⟩ = some (.string S) ∧ Below w.heap.size w w8 := by assumption
      go_wp2_with fail
      go_region_held3 (fun w' => w'.cell? ⟨A, 0, none⟩ = some (.int .i64 1) ∧ w'.cell? ⟨A, 1, none⟩ = some (.int .i64 bn) ∧ w'.cell? ⟨A, 2, none⟩ = some (.string s) ∧ w'.cell? ⟨B, 0, none⟩ = some (.int .i64 2) ∧ w'.cell? ⟨B, 1, none⟩ = some (.int .i64 0) ∧ w'.cell? ⟨B, 2, none⟩ = some (.string S) ∧ w'.cell? ⟨C, 0, none⟩ = some (.int .i64 3) ∧ w'.cell? ⟨C, 1, none⟩ = some (.int .i64 bn) ∧ w'.cell? ⟨C, 2, none⟩ = some (.string S) ∧ Below w.heap.size w w') (first | assumption | exact draw9 (by assumption) | go_keep) (first
        | ((with_reducible refine (AW.out _ (HG.out.next (below9 (by assumption)))).mono ?_); rintro e w8 ⟨rfl, hb8⟩; have k8 := keep9 (by assumption) hb8)
        | ((with_reducible refine (S2.out _ (HG.out.next (below9 (by assumption)))).mono ?_); rintro e w8 ⟨rfl, hb8⟩; have k8 := keep9 (by assumption) hb8)
        | ((with_reducible refine (A1.out _ (HG.out.next (below9 (by assumption)))).mono ?_); rintro e w8 ⟨rfl, hb8⟩; have k8 := keep9 (by assumption) hb8)
        | ((with_reducible refine (G2.out _).mono ?_); rintro e w8 ⟨rfl, hb8⟩; have k8 := keep9 (by assumption) hb8)
        | ((with_reducible refine (G3.out _).mono ?_); rintro e w8 ⟨rfl, hb8⟩; have k8 := keep9 (by assumption) hb8)
        | ((with_reducible refine (S3.out _ (HG.out.next (below9 (by assumption)))).mono ?_); rintro e w8 ⟨rfl, hb8⟩; have k8 := keep9 (by assumption) hb8))
      all_goals
        have HB9 : Hid (Below w.heap.size w w8) := Lib.hid (below9 (by assumption))
        go_wp2_with fail
        go_ret
        exact ⟨rfl, HB9.out⟩
  · have hkb : (k == 1) = false := by simpa using hk
    clear hk1 N1 P1
    refine wp_region_held_drew (S := fun w' => w'.cell? ⟨A, 0, none⟩ = some (.int .i64 k) ∧ w'.cell? ⟨A, 1, none⟩ = some (.int .i64 n) ∧ w'.cell? ⟨A, 2, none⟩ = some (.string s) ∧ w'.cell? ⟨B, 0, none⟩ = some (.int .i64 2) ∧ w'.cell? ⟨B, 1, none⟩ = some (.int .i64 0) ∧ w'.cell? ⟨B, 2, none⟩ = some (.string S) ∧ w'.cell? ⟨C, 0, none⟩ = some (.int .i64 bk) ∧ w'.cell? ⟨C, 1, none⟩ = some (.int .i64 bn) ∧ w'.cell? ⟨C, 2, none⟩ = some (.string S) ∧ Below w.heap.size w w') (by kernel_rfl) (draw9 hs) (fun hHeld => ?_)
    refine wpAnyH_take (i := 0) (oi := _) (v := ?_) rfl (by kernel_rfl) (by kernel_rfl) (by kernel_rfl) (fun _ _ _ h => h) (Or.inl ⟨by rfl, ?_⟩) (by assumption) ?_
    rotate_left
    · (intro w hSw; (try dsimp only at hSw); go_simp; try with_reducible rfl)
    try simp only [List.getElem_toArray, List.getElem_cons_zero, Act.put, List.setIfInBounds_toArray, List.set_cons_zero, List.set_cons_succ]
    refine wpAnyH_take (i := 1) (oi := _) (v := ?_) rfl (by kernel_rfl) (by kernel_rfl) (by kernel_rfl) (fun _ _ _ h => h) (Or.inl ⟨by rfl, ?_⟩) (by assumption) ?_
    rotate_left
    · (intro w hSw; (try dsimp only at hSw); go_simp; try with_reducible rfl)
    try simp only [List.getElem_toArray, List.getElem_cons_zero, List.getElem_cons_succ, Act.put, List.setIfInBounds_toArray, List.set_cons_zero, List.set_cons_succ]
    refine wpAnyH_take (i := 2) (oi := _) (v := ?_) rfl (by kernel_rfl) (by kernel_rfl) (by kernel_rfl) (fun _ _ _ h => h) (Or.inl ⟨by rfl, ?_⟩) (by assumption) ?_
    rotate_left
    · (intro w hSw; (try dsimp only at hSw); go_simp; try with_reducible rfl)
    try simp only [List.getElem_toArray, List.getElem_cons_zero, List.getElem_cons_succ, Act.put, List.setIfInBounds_toArray, List.set_cons_zero, List.set_cons_succ]
    refine wpAnyH_take (i := 3) (oi := _) (v := ?_) rfl (by kernel_rfl) (by kernel_rfl) (by kernel_rfl) (fun _ _ _ h => h) (Or.inl ⟨by rfl, ?_⟩) (by assumption) ?_
    rotate_left
    · (intro w hSw; (try dsimp only at hSw); go_simp; try with_reducible rfl)
    try simp only [List.getElem_toArray, List.getElem_cons_zero, List.getElem_cons_succ, Act.put, List.setIfInBounds_toArray, List.set_cons_zero, List.set_cons_succ]
    refine wpAnyH_take (i := 4) (oi := _) (v := undef) rfl (by kernel_rfl) (by kernel_rfl) (by kernel_rfl) (fun _ _ _ h => h) (Or.inr ⟨by rfl, rfl⟩) (by assumption) ?_
    try simp only [List.getElem_toArray, List.getElem_cons_zero, List.getElem_cons_succ, Act.put, List.setIfInBounds_toArray, List.set_cons_zero, List.set_cons_succ]
    refine wpAnyH_take (i := 6) (oi := _) (v := undef) rfl (by kernel_rfl) (by kernel_rfl) (by kernel_rfl) (fun _ _ _ h => h) (Or.inr ⟨by rfl, rfl⟩) (by assumption) ?_
    try simp only [List.getElem_toArray, List.getElem_cons_zero, List.getElem_cons_succ, Act.put, List.setIfInBounds_toArray, List.set_cons_zero, List.set_cons_succ]
    refine wpAnyH_take (i := 5) (oi := _) (v := undef) rfl (by kernel_rfl) (by kernel_rfl) (by kernel_rfl) (fun _ _ _ h => h) (Or.inr ⟨by rfl, rfl⟩) (by assumption) ?_
    try simp only [List.getElem_toArray, List.getElem_cons_zero, List.getElem_cons_succ, Act.put, List.setIfInBounds_toArray, List.set_cons_zero, List.set_cons_succ]
    refine wpAnyH_take (i := 7) (oi := _) (v := undef) rfl (by kernel_rfl) (by kernel_rfl) (by kernel_rfl) (fun _ _ _ h => h) (Or.inr ⟨by rfl, rfl⟩) (by assumption) ?_
    try simp only [List.getElem_toArray, List.getElem_cons_zero, List.getElem_cons_succ, Act.put, List.setIfInBounds_toArray, List.set_cons_zero, List.set_cons_succ]
    refine wpAnyH_take (i := 8) (oi := _) (v := undef) rfl (by kernel_rfl) (by kernel_rfl) (by kernel_rfl) (fun _ _ _ h => h) (Or.inr ⟨by rfl, rfl⟩) (by assumption) ?_
    try simp only [List.getElem_toArray, List.getElem_cons_zero, List.getElem_cons_succ, Act.put, List.setIfInBounds_toArray, List.set_cons_zero, List.set_cons_succ]
    refine wpAnyH_take (i := 9) (oi := _) (v := undef) rfl (by kernel_rfl) (by kernel_rfl) (by kernel_rfl) (fun _ _ _ h => h) (Or.inr ⟨by rfl, rfl⟩) (by assumption) ?_
    try simp only [List.getElem_toArray, List.getElem_cons_zero, List.getElem_cons_succ, Act.put, List.setIfInBounds_toArray, List.set_cons_zero, List.set_cons_succ]
    refine wpAnyH_take (i := 10) (oi := _) (v := undef) rfl (by kernel_rfl) (by kernel_rfl) (by kernel_rfl) (fun _ _ _ h => h) (Or.inr ⟨by rfl, rfl⟩) (by assumption) ?_
    try simp only [List.getElem_toArray, List.getElem_cons_zero, List.getElem_cons_succ, Act.put, List.setIfInBounds_toArray, List.set_cons_zero, List.set_cons_succ]
    refine wpAnyH_take (i := 11) (oi := _) (v := undef) rfl (by kernel_rfl) (by kernel_rfl) (by kernel_rfl) (fun _ _ _ h => h) (Or.inr ⟨by rfl, rfl⟩) (by assumption) ?_
    try simp only [List.getElem_toArray, List.getElem_cons_zero, List.getElem_cons_succ, Act.put, List.setIfInBounds_toArray, List.set_cons_zero, List.set_cons_succ]
    refine wpAnyH_take (i := 12) (oi := _) (v := undef) rfl (by kernel_rfl) (by kernel_rfl) (by kernel_rfl) (fun _ _ _ h => h) (Or.inr ⟨by rfl, rfl⟩) (by assumption) ?_
    try simp only [List.getElem_toArray, List.getElem_cons_zero, List.getElem_cons_succ, Act.put, List.setIfInBounds_toArray, List.set_cons_zero, List.set_cons_succ]
    refine wpAnyH_take (i := 13) (oi := _) (v := undef) rfl (by kernel_rfl) (by kernel_rfl) (by kernel_rfl) (fun _ _ _ h => h) (Or.inr ⟨by rfl, rfl⟩) (by assumption) ?_
    try simp only [List.getElem_toArray, List.getElem_cons_zero, List.getElem_cons_succ, Act.put, List.setIfInBounds_toArray, List.set_cons_zero, List.set_cons_succ]
    refine wpAnyH_take (i := 14) (oi := _) (v := undef) rfl (by kernel_rfl) (by kernel_rfl) (by kernel_rfl) (fun _ _ _ h => h) (Or.inr ⟨by rfl, rfl⟩) (by assumption) ?_
    try simp only [List.getElem_toArray, List.getElem_cons_zero, List.getElem_cons_succ, Act.put, List.setIfInBounds_toArray, List.set_cons_zero, List.set_cons_succ]
    refine wpAnyH_take (i := 15) (oi := _) (v := undef) rfl (by kernel_rfl) (by kernel_rfl) (by kernel_rfl) (fun _ _ _ h => h) (Or.inr ⟨by rfl, rfl⟩) (by assumption) ?_
    try simp only [List.getElem_toArray, List.getElem_cons_zero, List.getElem_cons_succ, Act.put, List.setIfInBounds_toArray, List.set_cons_zero, List.set_cons_succ]
    refine wpAnyH_take (i := 17) (oi := _) (v := undef) rfl (by kernel_rfl) (by kernel_rfl) (by kernel_rfl) (fun _ _ _ h => h) (Or.inr ⟨by rfl, rfl⟩) (by assumption) ?_
    try simp only [List.getElem_toArray, List.getElem_cons_zero, List.getElem_cons_succ, Act.put, List.setIfInBounds_toArray, List.set_cons_zero, List.set_cons_succ]
    refine wpAnyH_take (i := 16) (oi := _) (v := undef) rfl (by kernel_rfl) (by kernel_rfl) (by kernel_rfl) (fun _ _ _ h => h) (Or.inr ⟨by rfl, rfl⟩) (by assumption) ?_
    try simp only [List.getElem_toArray, List.getElem_cons_zero, List.getElem_cons_succ, Act.put, List.setIfInBounds_toArray, List.set_cons_zero, List.set_cons_succ]
    refine wpAnyH_take (i := 18) (oi := _) (v := undef) rfl (by kernel_rfl) (by kernel_rfl) (by kernel_rfl) (fun _ _ _ h => h) (Or.inr ⟨by rfl, rfl⟩) (by assumption) ?_
    try simp only [List.getElem_toArray, List.getElem_cons_zero, List.getElem_cons_succ, Act.put, List.setIfInBounds_toArray, List.set_cons_zero, List.set_cons_succ]
    refine wpAnyH_take (i := 19) (oi := _) (v := undef) rfl (by kernel_rfl) (by kernel_rfl) (by kernel_rfl) (fun _ _ _ h => h) (Or.inr ⟨by rfl, rfl⟩) (by assumption) ?_
    try simp only [List.getElem_toArray, List.getElem_cons_zero, List.getElem_cons_succ, Act.put, List.setIfInBounds_toArray, List.set_cons_zero, List.set_cons_succ]
    refine wpAnyH_take (i := 20) (oi := _) (v := undef) rfl (by kernel_rfl) (by kernel_rfl) (by kernel_rfl) (fun _ _ _ h => h) (Or.inr ⟨by rfl, rfl⟩) (by assumption) ?_
    try simp only [List.getElem_toArray, List.getElem_cons_zero, List.getElem_cons_succ, Act.put, List.setIfInBounds_toArray, List.set_cons_zero, List.set_cons_succ]
    refine wpAnyH_take (i := 21) (oi := _) (v := undef) rfl (by kernel_rfl) (by kernel_rfl) (by kernel_rfl) (fun _ _ _ h => h) (Or.inr ⟨by rfl, rfl⟩) (by assumption) ?_
    try simp only [List.getElem_toArray, List.getElem_cons_zero, List.getElem_cons_succ, Act.put, List.setIfInBounds_toArray, List.set_cons_zero, List.set_cons_succ]
    refine wpAnyH_take (i := 22) (oi := _) (v := undef) rfl (by kernel_rfl) (by kernel_rfl) (by kernel_rfl) (fun _ _ _ h => h) (Or.inr ⟨by rfl, rfl⟩) (by assumption) ?_
    try simp only [List.getElem_toArray, List.getElem_cons_zero, List.getElem_cons_succ, Act.put, List.setIfInBounds_toArray, List.set_cons_zero, List.set_cons_succ]
    refine wpAnyH_take (i := 23) (oi := _) (v := undef) rfl (by kernel_rfl) (by kernel_rfl) (by kernel_rfl) (fun _ _ _ h => h) (Or.inr ⟨by rfl, rfl⟩) (by assumption) ?_
    try simp only [List.getElem_toArray, List.getElem_cons_zero, List.getElem_cons_succ, Act.put, List.setIfInBounds_toArray, List.set_cons_zero, List.set_cons_succ]
    refine wpAnyH_take (i := 24) (oi := _) (v := undef) rfl (by kernel_rfl) (by kernel_rfl) (by kernel_rfl) (fun _ _ _ h => h) (Or.inr ⟨by rfl, rfl⟩) (by assumption) ?_
    try simp only [List.getElem_toArray, List.getElem_cons_zero, List.getElem_cons_succ, Act.put, List.setIfInBounds_toArray, List.set_cons_zero, List.set_cons_succ]
    refine wpAnyH_take (i := 25) (oi := _) (v := undef) rfl (by kernel_rfl) (by kernel_rfl) (by kernel_rfl) (fun _ _ _ h => h) (Or.inr ⟨by rfl, rfl⟩) (by assumption) ?_
    try simp only [List.getElem_toArray, List.getElem_cons_zero, List.getElem_cons_succ, Act.put, List.setIfInBounds_toArray, List.set_cons_zero, List.set_cons_succ]
    refine wpAnyH_take (i := 26) (oi := _) (v := undef) rfl (by kernel_rfl) (by kernel_rfl) (by kernel_rfl) (fun _ _ _ h => h) (Or.inr ⟨by rfl, rfl⟩) (by assumption) ?_
    try simp only [List.getElem_toArray, List.getElem_cons_zero, List.getElem_cons_succ, Act.put, List.setIfInBounds_toArray, List.set_cons_zero, List.set_cons_succ]
    refine wpAnyH_take (i := 27) (oi := _) (v := ?_) rfl (by kernel_rfl) (by kernel_rfl) (by kernel_rfl) (fun _ _ _ h => h) (Or.inl ⟨by rfl, ?_⟩) (by assumption) ?_
    rotate_left
    · (intro w hSw; (try dsimp only at hSw); go_simp; try with_reducible rfl)
    try simp only [List.getElem_toArray, List.getElem_cons_zero, List.getElem_cons_succ, Act.put, List.setIfInBounds_toArray, List.set_cons_zero, List.set_cons_succ]
    refine wpAnyH_done (by kernel_rfl) ?_ _
    go_wp2_with fail
    go_region_held3 (fun w' => w'.cell? ⟨A, 0, none⟩ = some (.int .i64 k) ∧ w'.cell? ⟨A, 1, none⟩ = some (.int .i64 n) ∧ w'.cell? ⟨A, 2, none⟩ = some (.string s) ∧ w'.cell? ⟨B, 0, none⟩ = some (.int .i64 2) ∧ w'.cell? ⟨B, 1, none⟩ = some (.int .i64 0) ∧ w'.cell? ⟨B, 2, none⟩ = some (.string S) ∧ w'.cell? ⟨C, 0, none⟩ = some (.int .i64 bk) ∧ w'.cell? ⟨C, 1, none⟩ = some (.int .i64 bn) ∧ w'.cell? ⟨C, 2, none⟩ = some (.string S) ∧ Below w.heap.size w w') (first | assumption | exact draw9 (by assumption) | go_keep) (first
      | ((with_reducible refine (AW.out _ (HG.out.next (below9 (by assumption)))).mono ?_); rintro e w8 ⟨rfl, hb8⟩; have k8 := keep9 (by assumption) hb8)
      | ((with_reducible refine (S2.out _ (HG.out.next (below9 (by assumption)))).mono ?_); rintro e w8 ⟨rfl, hb8⟩; have k8 := keep9 (by assumption) hb8)
      | ((with_reducible refine (A1.out _ (HG.out.next (below9 (by assumption)))).mono ?_); rintro e w8 ⟨rfl, hb8⟩; have k8 := keep9 (by assumption) hb8)
      | ((with_reducible refine (G2.out _).mono ?_); rintro e w8 ⟨rfl, hb8⟩; have k8 := keep9 (by assumption) hb8)
      | ((with_reducible refine (G3.out _).mono ?_); rintro e w8 ⟨rfl, hb8⟩; have k8 := keep9 (by assumption) hb8)
      | ((with_reducible refine (S3.out _ (HG.out.next (below9 (by assumption)))).mono ?_); rintro e w8 ⟨rfl, hb8⟩; have k8 := keep9 (by assumption) hb8))
    all_goals
      have HB9 : Hid (Below w.heap.size w w8) := Lib.hid (below9 (by assumption))
      go_wp2_with fail
      go_ret
      exact ⟨rfl, HB9.out⟩
theorem looks_text (a : Int) (ha : OkN a) : looksL (textL a) = (a, true) := by
  have hb := back1 a ha
  have h0 : textL a ≠ [] := fun h => by
    rw [h, show prefixL [] = (0, 0) from by decide +kernel] at hb
    have h1 := congrArg Prod.fst hb
    simp only at h1
    subst h1
    exact absurd h (by decide +kernel)
  have hp : 0 < (textL a).length := List.length_pos_iff.2 h0
  unfold looksL
  rw [hb]
  simp only [List.drop_length, List.all_nil, Bool.and_true, decide_eq_true hp]
theorem cthrough_walk (k n : Int) (s0 : ByteArray) (h0 : s0.size ≤ maxLen) (w : World) (G : Gl w) :
    Calls Tryd.prog 7 #[cv k n s0] w fun e w' => e = .returned (.bool true) ∧ Below w.heap.size w w' := by
  have hs := cutB_size s0 100
  have C1 := Lib.hid fun W => lcut_any k n s0 W h0
  generalize cutB s0 100 = s at *
  obtain ⟨g, hg, G1⟩ := good_c k n s (by omega)
  obtain ⟨S, hS⟩ : ∃ S, strC k n s = S := ⟨_, rfl⟩
  have hsz : g = true → S.size ≤ 100 := fun h => by rw [← hS]; exact strC_size k n s hs (good_one (hg.1 h)) text_len
  have hbk : inK S.data.toList ≠ 1 := by unfold inK; split <;> decide
  have h2 : strC 2 0 S = S := by unfold strC; rw [if_neg (by decide)]
  have h3 : strC (inK S.data.toList) (inN S.data.toList) S = S := by unfold strC; rw [if_neg hbk]
  refine cthrough_in k n s0 s S g (numC 2 0 S) (inK S.data.toList) (inN S.data.toList) (compC (inK S.data.toList) (inN S.data.toList) S k n s) w (Lib.hid G) (Lib.hid fun W G => cawake_any W G) C1 (Lib.hid G1)
    (fun h => Lib.hid fun W G => ?_) (fun h => Lib.hid fun W => ?_) (fun h => Lib.hid fun W => ?_) (fun h => Lib.hid fun W => ?_) (fun h => Lib.hid fun W G => ?_) (fun h => Lib.hid fun W G => ?_) (fun h => Lib.hid fun W G => ?_) (fun h => ?_) (fun h => ?_) ?_
  · have hz := hsz h
    have := cstr_any k n s W (good_one (hg.1 h)) (by rw [hS]; omega) G
    rw [hS] at this; exact this
  · have hz := hsz h
    exact text_mk S W (by omega)
  · have hz := hsz h
    exact input_any S W (by omega)
  · have hz := hsz h
    exact cnum_any 2 0 S W (by omega)
  · exact comp_any _ _ S k n s W (fun h => absurd h hbk) (good_one (hg.1 h)) G
  · have hz := hsz h
    have := cstr_any 2 0 S W (fun h => absurd h (by decide)) (by rw [h2]; omega) G
    rw [h2] at this; exact this
  · have hz := hsz h
    have := cstr_any _ _ S W (fun h => absurd h hbk) (by rw [h3]; omega) G
    rw [h3] at this; exact this
  · have hz := hsz h
    obtain ⟨g2, hg2, G2⟩ := good_c 2 0 S (by omega)
    obtain rfl : g2 = true := hg2.2 (Or.inr (Or.inr (Or.inl ⟨rfl, rfl⟩)))
    exact Lib.hid G2
  · have hz := hsz h
    obtain ⟨g2, hg2, G2⟩ := good_c (inK S.data.toList) (inN S.data.toList) S (by omega)
    obtain rfl : g2 = true := hg2.2 (by
      unfold inK inN
      by_cases hl : (looksL S.data.toList).2 = true
      · rw [if_pos hl, if_pos hl]
        exact Or.inr (Or.inr (Or.inr ⟨rfl, by rw [← hl]⟩))
      · rw [if_neg hl, if_neg hl]
        exact Or.inr (Or.inr (Or.inl ⟨rfl, rfl⟩)))
    exact Lib.hid G2
  · rintro h rfl
    have ha := good_one (hg.1 h) rfl
    have hSt : S.data.toList = textL n := by rw [← hS]; unfold strC; rw [if_pos rfl]
    have hl := looks_text n ha
    unfold numC inK inN
    rw [hSt, back1 n ha, hl]
    refine ⟨rfl, rfl, rfl, ?_⟩
    unfold compC cmpI
    simp
end Go.Proofs.YtajonlpohllheaaDoor
