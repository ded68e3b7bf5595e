/-
  CONTRACTS of layer 7's print of a value by a conversion, and of readConversion: what each hands back; nothing that was there is written. Conditions: the library's tables of powers of ten and of trailing zeros are as they were laid; its MaxLen holds some int.
-/
import Derived.Test.YtipcanbeegladaaGreatDoorFmtW3
import Derived.Deep.RegionHeld3
namespace Go.Proofs.YtipcanbeegladaaGreatDoor
open Go.RowKit

/-- Eleven cells (a conversion and a value in memory) keep what they hold behind a call that writes to nothing that was there. -/
theorem keepP {W w w3 : World} {a b : Nat} {x0 x1 x2 x3 x4 x5 x6 x7 y0 y1 y2 : Value}
    (h : w.cell? ⟨a, 0, none⟩ = some x0 ∧ w.cell? ⟨a, 1, none⟩ = some x1 ∧ w.cell? ⟨a, 2, none⟩ = some x2 ∧ w.cell? ⟨a, 3, none⟩ = some x3 ∧ w.cell? ⟨a, 4, none⟩ = some x4 ∧ w.cell? ⟨a, 5, none⟩ = some x5 ∧ w.cell? ⟨a, 6, none⟩ = some x6 ∧ w.cell? ⟨a, 7, none⟩ = some x7 ∧ w.cell? ⟨b, 0, none⟩ = some y0 ∧ w.cell? ⟨b, 1, none⟩ = some y1 ∧ w.cell? ⟨b, 2, none⟩ = some y2 ∧ Below W.heap.size W w) (hb : Below w.heap.size w w3) :
    w3.cell? ⟨a, 0, none⟩ = some x0 ∧ w3.cell? ⟨a, 1, none⟩ = some x1 ∧ w3.cell? ⟨a, 2, none⟩ = some x2 ∧ w3.cell? ⟨a, 3, none⟩ = some x3 ∧ w3.cell? ⟨a, 4, none⟩ = some x4 ∧ w3.cell? ⟨a, 5, none⟩ = some x5 ∧ w3.cell? ⟨a, 6, none⟩ = some x6 ∧ w3.cell? ⟨a, 7, none⟩ = some x7 ∧ w3.cell? ⟨b, 0, none⟩ = some y0 ∧ w3.cell? ⟨b, 1, none⟩ = some y1 ∧ w3.cell? ⟨b, 2, none⟩ = some y2 ∧ Below W.heap.size W w3 := by
  have k : ∀ {c o : Nat} {x : Value}, w.cell? ⟨c, o, none⟩ = some x → w3.cell? ⟨c, o, none⟩ = some x := fun h => (hb.cell (p := ⟨_, _, none⟩) (World.block_lt_of_cell? _ _ h)).trans h
  obtain ⟨h0, h1, h2, h3, h4, h5, h6, h7, g0, g1, g2, hB⟩ := h
  exact ⟨k h0, k h1, k h2, k h3, k h4, k h5, k h6, k h7, k g0, k g1, k g2, hB.trans (hb.mono hB.size)⟩
theorem belowP {W w : World} {a b : Nat} {x0 x1 x2 x3 x4 x5 x6 x7 y0 y1 y2 : Value} (h : w.cell? ⟨a, 0, none⟩ = some x0 ∧ w.cell? ⟨a, 1, none⟩ = some x1 ∧ w.cell? ⟨a, 2, none⟩ = some x2 ∧ w.cell? ⟨a, 3, none⟩ = some x3 ∧ w.cell? ⟨a, 4, none⟩ = some x4 ∧ w.cell? ⟨a, 5, none⟩ = some x5 ∧ w.cell? ⟨a, 6, none⟩ = some x6 ∧ w.cell? ⟨a, 7, none⟩ = some x7 ∧ w.cell? ⟨b, 0, none⟩ = some y0 ∧ w.cell? ⟨b, 1, none⟩ = some y1 ∧ w.cell? ⟨b, 2, none⟩ = some y2 ∧ Below W.heap.size W w) : Below W.heap.size W w := h.2.2.2.2.2.2.2.2.2.2.2
theorem drawP {W w : World} {a b : Nat} {x0 x1 x2 x3 x4 x5 x6 x7 y0 y1 y2 : Value} (h : w.cell? ⟨a, 0, none⟩ = some x0 ∧ w.cell? ⟨a, 1, none⟩ = some x1 ∧ w.cell? ⟨a, 2, none⟩ = some x2 ∧ w.cell? ⟨a, 3, none⟩ = some x3 ∧ w.cell? ⟨a, 4, none⟩ = some x4 ∧ w.cell? ⟨a, 5, none⟩ = some x5 ∧ w.cell? ⟨a, 6, none⟩ = some x6 ∧ w.cell? ⟨a, 7, none⟩ = some x7 ∧ w.cell? ⟨b, 0, none⟩ = some y0 ∧ w.cell? ⟨b, 1, none⟩ = some y1 ∧ w.cell? ⟨b, 2, none⟩ = some y2 ∧ Below W.heap.size W w) :
    w.drew.cell? ⟨a, 0, none⟩ = some x0 ∧ w.drew.cell? ⟨a, 1, none⟩ = some x1 ∧ w.drew.cell? ⟨a, 2, none⟩ = some x2 ∧ w.drew.cell? ⟨a, 3, none⟩ = some x3 ∧ w.drew.cell? ⟨a, 4, none⟩ = some x4 ∧ w.drew.cell? ⟨a, 5, none⟩ = some x5 ∧ w.drew.cell? ⟨a, 6, none⟩ = some x6 ∧ w.drew.cell? ⟨a, 7, none⟩ = some x7 ∧ w.drew.cell? ⟨b, 0, none⟩ = some y0 ∧ w.drew.cell? ⟨b, 1, none⟩ = some y1 ∧ w.drew.cell? ⟨b, 2, none⟩ = some y2 ∧ Below W.heap.size W w.drew := by
  obtain ⟨h0, h1, h2, h3, h4, h5, h6, h7, g0, g1, g2, hB⟩ := h
  exact ⟨h0, h1, h2, h3, h4, h5, h6, h7, g0, g1, g2, hB.drew⟩
set_option maxRecDepth 100000 in
set_option maxHeartbeats 2000000 in
theorem print_s (l z p bl : Bool) (wd pr : Int) (pc : Bool) (kk nn : Int) (s T R : ByteArray) (w : World) (HG : Hid (Gf w))
    (C1 : Hid (∀ W, Gf W → Calls Tryz.prog 26 #[.agg #[.bool l, .bool z, .bool p, .bool bl, .int .i64 wd, .int .i64 pr, .bool pc, .int .u8 115], .agg #[.int .i64 kk, .int .i64 nn, .string s]] W fun e w' => e = .returned (.string T) ∧ Below W.heap.size W w'))
    (C2 : Hid (∀ W, Calls Tryz.prog 25 #[.agg #[.bool l, .bool z, .bool p, .bool bl, .int .i64 wd, .int .i64 pr, .bool pc, .int .u8 115], .string ⟨#[]⟩, .string T] W fun e w' => e = .returned (.string R) ∧ Below W.heap.size W w')) :
    Calls Tryz.prog 13 #[.agg #[.bool l, .bool z, .bool p, .bool bl, .int .i64 wd, .int .i64 pr, .bool pc, .int .u8 115], .agg #[.int .i64 kk, .int .i64 nn, .string s]] w fun e w' => e = .returned (.string R) ∧ Below w.heap.size w w' := by
  go_enter Tryz.func13, Tryz.ntmps13
  go_wp2_with fail
  generalize hX : Obj.cells #[Value.bool l, Value.bool z, Value.bool p, Value.bool bl, Value.int .i64 wd, Value.int .i64 pr, Value.bool pc, Value.int .u8 115] 41 = X
  generalize hY : Obj.cells #[Value.int .i64 kk, Value.int .i64 nn, Value.string s] 36 = Y
  obtain ⟨B1, hB1⟩ : ∃ B, w.heap.size = B := ⟨_, rfl⟩
  obtain ⟨B2, hB2⟩ : ∃ B, w.heap.size + 1 = B := ⟨_, rfl⟩
  have hs : ((w.alloc X).alloc Y).cell? ⟨B1, 0, none⟩ = some (.bool l) ∧ ((w.alloc X).alloc Y).cell? ⟨B1, 1, none⟩ = some (.bool z) ∧ ((w.alloc X).alloc Y).cell? ⟨B1, 2, none⟩ = some (.bool p) ∧ ((w.alloc X).alloc Y).cell? ⟨B1, 3, none⟩ = some (.bool bl) ∧ ((w.alloc X).alloc Y).cell? ⟨B1, 4, none⟩ = some (.int .i64 wd) ∧ ((w.alloc X).alloc Y).cell? ⟨B1, 5, none⟩ = some (.int .i64 pr) ∧ ((w.alloc X).alloc Y).cell? ⟨B1, 6, none⟩ = some (.bool pc) ∧ ((w.alloc X).alloc Y).cell? ⟨B1, 7, none⟩ = some (.int .u8 115) ∧ ((w.alloc X).alloc Y).cell? ⟨B2, 0, none⟩ = some (.int .i64 kk) ∧ ((w.alloc X).alloc Y).cell? ⟨B2, 1, none⟩ = some (.int .i64 nn) ∧ ((w.alloc X).alloc Y).cell? ⟨B2, 2, none⟩ = some (.string s) ∧ Below w.heap.size w ((w.alloc X).alloc Y) := by
    rw [← hX, ← hY, ← hB1, ← hB2]
    refine ⟨by simp [go_sem], by simp [go_sem], by simp [go_sem], by simp [go_sem], by simp [go_sem], by simp [go_sem], by simp [go_sem], by simp [go_sem], by simp [go_sem], by simp [go_sem], by simp [go_sem], ((Below.refl _ _).alloc (Nat.le_refl _) _).alloc (by simp) _⟩
  clear hX hY
  rw [hB2, hB1]
  generalize (w.alloc X).alloc Y = w0 at *
  clear hB1 hB2
  go_region_held3 (fun w' => w'.cell? ⟨B1, 0, none⟩ = some (.bool l) ∧ w'.cell? ⟨B1, 1, none⟩ = some (.bool z) ∧ w'.cell? ⟨B1, 2, none⟩ = some (.bool p) ∧ w'.cell? ⟨B1, 3, none⟩ = some (.bool bl) ∧ w'.cell? ⟨B1, 4, none⟩ = some (.int .i64 wd) ∧ w'.cell? ⟨B1, 5, none⟩ = some (.int .i64 pr) ∧ w'.cell? ⟨B1, 6, none⟩ = some (.bool pc) ∧ w'.cell? ⟨B1, 7, none⟩ = some (.int .u8 115) ∧ w'.cell? ⟨B2, 0, none⟩ = some (.int .i64 kk) ∧ w'.cell? ⟨B2, 1, none⟩ = some (.int .i64 nn) ∧ w'.cell? ⟨B2, 2, none⟩ = some (.string s) ∧ Below w.heap.size w w') (first | assumption | exact drawP (by assumption) | go_keep) (first
      | ((with_reducible refine (C1.out _ (HG.out.next (belowP (by assumption)))).mono ?_); rintro e w8 ⟨rfl, hb8⟩; have k8 := keepP (by assumption) hb8)
      | ((with_reducible refine (C2.out _).mono ?_); rintro e w8 ⟨rfl, hb8⟩; have k8 := keepP (by assumption) hb8))
  all_goals
    have HB9 : Hid (Below w.heap.size w w8) := Lib.hid (belowP (by assumption))
    go_wp2_with fail
    go_ret
    exact ⟨rfl, HB9.out⟩
set_option maxRecDepth 100000 in
set_option maxHeartbeats 2000000 in
theorem print_c (l z p bl : Bool) (wd pr : Int) (pc : Bool) (kk nn : Int) (s T R : ByteArray) (w : World) (HG : Hid (Gf w))
    (C1 : Hid (∀ W, Gf W → Calls Tryz.prog 27 #[.agg #[.int .i64 kk, .int .i64 nn, .string s]] W fun e w' => e = .returned (.string T) ∧ Below W.heap.size W w'))
    (C2 : Hid (∀ W, Calls Tryz.prog 25 #[.agg #[.bool l, .bool z, .bool p, .bool bl, .int .i64 wd, .int .i64 pr, .bool pc, .int .u8 99], .string ⟨#[]⟩, .string T] W fun e w' => e = .returned (.string R) ∧ Below W.heap.size W w')) :
    Calls Tryz.prog 13 #[.agg #[.bool l, .bool z, .bool p, .bool bl, .int .i64 wd, .int .i64 pr, .bool pc, .int .u8 99], .agg #[.int .i64 kk, .int .i64 nn, .string s]] w fun e w' => e = .returned (.string R) ∧ Below w.heap.size w w' := by
  go_enter Tryz.func13, Tryz.ntmps13
  go_wp2_with fail
  generalize hX : Obj.cells #[Value.bool l, Value.bool z, Value.bool p, Value.bool bl, Value.int .i64 wd, Value.int .i64 pr, Value.bool pc, Value.int .u8 99] 41 = X
  generalize hY : Obj.cells #[Value.int .i64 kk, Value.int .i64 nn, Value.string s] 36 = Y
  obtain ⟨B1, hB1⟩ : ∃ B, w.heap.size = B := ⟨_, rfl⟩
  obtain ⟨B2, hB2⟩ : ∃ B, w.heap.size + 1 = B := ⟨_, rfl⟩
  have hs : ((w.alloc X).alloc Y).cell? ⟨B1, 0, none⟩ = some (.bool l) ∧ ((w.alloc X).alloc Y).cell? ⟨B1, 1, none⟩ = some (.bool z) ∧ ((w.alloc X).alloc Y).cell? ⟨B1, 2, none⟩ = some (.bool p) ∧ ((w.alloc X).alloc Y).cell? ⟨B1, 3, none⟩ = some (.bool bl) ∧ ((w.alloc X).alloc Y).cell? ⟨B1, 4, none⟩ = some (.int .i64 wd) ∧ ((w.alloc X).alloc Y).cell? ⟨B1, 5, none⟩ = some (.int .i64 pr) ∧ ((w.alloc X).alloc Y).cell? ⟨B1, 6, none⟩ = some (.bool pc) ∧ ((w.alloc X).alloc Y).cell? ⟨B1, 7, none⟩ = some (.int .u8 99) ∧ ((w.alloc X).alloc Y).cell? ⟨B2, 0, none⟩ = some (.int .i64 kk) ∧ ((w.alloc X).alloc Y).cell? ⟨B2, 1, none⟩ = some (.int .i64 nn) ∧ ((w.alloc X).alloc Y).cell? ⟨B2, 2, none⟩ = some (.string s) ∧ Below w.heap.size w ((w.alloc X).alloc Y) := by
    rw [← hX, ← hY, ← hB1, ← hB2]
    refine ⟨by simp [go_sem], by simp [go_sem], by simp [go_sem], by simp [go_sem], by simp [go_sem], by simp [go_sem], by simp [go_sem], by simp [go_sem], by simp [go_sem], by simp [go_sem], by simp [go_sem], ((Below.refl _ _).alloc (Nat.le_refl _) _).alloc (by simp) _⟩
  clear hX hY
  rw [hB2, hB1]
  generalize (w.alloc X).alloc Y = w0 at *
  clear hB1 hB2
  go_region_held3 (fun w' => w'.cell? ⟨B1, 0, none⟩ = some (.bool l) ∧ w'.cell? ⟨B1, 1, none⟩ = some (.bool z) ∧ w'.cell? ⟨B1, 2, none⟩ = some (.bool p) ∧ w'.cell? ⟨B1, 3, none⟩ = some (.bool bl) ∧ w'.cell? ⟨B1, 4, none⟩ = some (.int .i64 wd) ∧ w'.cell? ⟨B1, 5, none⟩ = some (.int .i64 pr) ∧ w'.cell? ⟨B1, 6, none⟩ = some (.bool pc) ∧ w'.cell? ⟨B1, 7, none⟩ = some (.int .u8 99) ∧ w'.cell? ⟨B2, 0, none⟩ = some (.int .i64 kk) ∧ w'.cell? ⟨B2, 1, none⟩ = some (.int .i64 nn) ∧ w'.cell? ⟨B2, 2, none⟩ = some (.string s) ∧ Below w.heap.size w w') (first | assumption | exact drawP (by assumption) | go_keep) (first
      | ((with_reducible refine (C1.out _ (HG.out.next (belowP (by assumption)))).mono ?_); rintro e w8 ⟨rfl, hb8⟩; have k8 := keepP (by assumption) hb8)
      | ((with_reducible refine (C2.out _).mono ?_); rintro e w8 ⟨rfl, hb8⟩; have k8 := keepP (by assumption) hb8))
  all_goals
    have HB9 : Hid (Below w.heap.size w w8) := Lib.hid (belowP (by assumption))
    go_wp2_with fail
    go_ret
    exact ⟨rfl, HB9.out⟩
set_option maxRecDepth 100000 in
set_option maxHeartbeats 2000000 in
theorem print_f (l z p bl : Bool) (wd pr : Int) (pc : Bool) (kk nn n : Int) (s SG T R : ByteArray) (b : Bool) (w : World) (hb : decide (n < 0) = b) (HG : Hid (Gf w))
    (C0 : Hid (∀ W, Calls Tryz.prog 28 #[.agg #[.int .i64 kk, .int .i64 nn, .string s]] W fun e w' => e = .returned (.int .i64 n) ∧ Below W.heap.size W w'))
    (C1 : Hid (∀ W, Calls Tryz.prog 29 #[.agg #[.bool l, .bool z, .bool p, .bool bl, .int .i64 wd, .int .i64 pr, .bool pc, .int .u8 102], .bool b] W fun e w' => e = .returned (.string SG) ∧ Below W.heap.size W w'))
    (C2 : Hid (∀ W, Gf W → Calls Tryz.prog 30 #[.agg #[.bool l, .bool z, .bool p, .bool bl, .int .i64 wd, .int .i64 pr, .bool pc, .int .u8 102], .int .i64 n] W fun e w' => e = .returned (.string T) ∧ Below W.heap.size W w'))
    (C3 : Hid (∀ W, Calls Tryz.prog 25 #[.agg #[.bool l, .bool z, .bool p, .bool bl, .int .i64 wd, .int .i64 pr, .bool pc, .int .u8 102], .string SG, .string T] W fun e w' => e = .returned (.string R) ∧ Below W.heap.size W w')) :
    Calls Tryz.prog 13 #[.agg #[.bool l, .bool z, .bool p, .bool bl, .int .i64 wd, .int .i64 pr, .bool pc, .int .u8 102], .agg #[.int .i64 kk, .int .i64 nn, .string s]] w fun e w' => e = .returned (.string R) ∧ Below w.heap.size w w' := by
  go_enter Tryz.func13, Tryz.ntmps13
  go_wp2_with fail
  generalize hX : Obj.cells #[Value.bool l, Value.bool z, Value.bool p, Value.bool bl, Value.int .i64 wd, Value.int .i64 pr, Value.bool pc, Value.int .u8 102] 41 = X
  generalize hY : Obj.cells #[Value.int .i64 kk, Value.int .i64 nn, Value.string s] 36 = Y
  obtain ⟨B1, hB1⟩ : ∃ B, w.heap.size = B := ⟨_, rfl⟩
  obtain ⟨B2, hB2⟩ : ∃ B, w.heap.size + 1 = B := ⟨_, rfl⟩
  have hs : ((w.alloc X).alloc Y).cell? ⟨B1, 0, none⟩ = some (.bool l) ∧ ((w.alloc X).alloc Y).cell? ⟨B1, 1, none⟩ = some (.bool z) ∧ ((w.alloc X).alloc Y).cell? ⟨B1, 2, none⟩ = some (.bool p) ∧ ((w.alloc X).alloc Y).cell? ⟨B1, 3, none⟩ = some (.bool bl) ∧ ((w.alloc X).alloc Y).cell? ⟨B1, 4, none⟩ = some (.int .i64 wd) ∧ ((w.alloc X).alloc Y).cell? ⟨B1, 5, none⟩ = some (.int .i64 pr) ∧ ((w.alloc X).alloc Y).cell? ⟨B1, 6, none⟩ = some (.bool pc) ∧ ((w.alloc X).alloc Y).cell? ⟨B1, 7, none⟩ = some (.int .u8 102) ∧ ((w.alloc X).alloc Y).cell? ⟨B2, 0, none⟩ = some (.int .i64 kk) ∧ ((w.alloc X).alloc Y).cell? ⟨B2, 1, none⟩ = some (.int .i64 nn) ∧ ((w.alloc X).alloc Y).cell? ⟨B2, 2, none⟩ = some (.string s) ∧ Below w.heap.size w ((w.alloc X).alloc Y) := by
    rw [← hX, ← hY, ← hB1, ← hB2]
    refine ⟨by simp [go_sem], by simp [go_sem], by simp [go_sem], by simp [go_sem], by simp [go_sem], by simp [go_sem], by simp [go_sem], by simp [go_sem], by simp [go_sem], by simp [go_sem], by simp [go_sem], ((Below.refl _ _).alloc (Nat.le_refl _) _).alloc (by simp) _⟩
  clear hX hY
  rw [hB2, hB1]
  generalize (w.alloc X).alloc Y = w0 at *
  clear hB1 hB2
  refine (C0.out _).mono ?_
  rintro e w1 ⟨rfl, hb1⟩
  have k1 := keepP hs hb1
  have HB1 := Lib.hid (belowP k1)
  clear hs hb1
  obtain ⟨c0, c1, c2, c3, c4, c5, c6, c7, d0, d1, d2, -⟩ := k1
  go_wp2_with fail
  have hs1 : w1.cell? ⟨B1, 0, none⟩ = some (.bool l) ∧ w1.cell? ⟨B1, 1, none⟩ = some (.bool z) ∧ w1.cell? ⟨B1, 2, none⟩ = some (.bool p) ∧ w1.cell? ⟨B1, 3, none⟩ = some (.bool bl) ∧ w1.cell? ⟨B1, 4, none⟩ = some (.int .i64 wd) ∧ w1.cell? ⟨B1, 5, none⟩ = some (.int .i64 pr) ∧ w1.cell? ⟨B1, 6, none⟩ = some (.bool pc) ∧ w1.cell? ⟨B1, 7, none⟩ = some (.int .u8 102) ∧ w1.cell? ⟨B2, 0, none⟩ = some (.int .i64 kk) ∧ w1.cell? ⟨B2, 1, none⟩ = some (.int .i64 nn) ∧ w1.cell? ⟨B2, 2, none⟩ = some (.string s) ∧ Below w.heap.size w w1 := ⟨c0, c1, c2, c3, c4, c5, c6, c7, d0, d1, d2, HB1.out⟩
  clear c0 c1 c2 c3 c4 c5 c6 c7 d0 d1 d2
  go_region_held3 (fun w' => w'.cell? ⟨B1, 0, none⟩ = some (.bool l) ∧ w'.cell? ⟨B1, 1, none⟩ = some (.bool z) ∧ w'.cell? ⟨B1, 2, none⟩ = some (.bool p) ∧ w'.cell? ⟨B1, 3, none⟩ = some (.bool bl) ∧ w'.cell? ⟨B1, 4, none⟩ = some (.int .i64 wd) ∧ w'.cell? ⟨B1, 5, none⟩ = some (.int .i64 pr) ∧ w'.cell? ⟨B1, 6, none⟩ = some (.bool pc) ∧ w'.cell? ⟨B1, 7, none⟩ = some (.int .u8 102) ∧ w'.cell? ⟨B2, 0, none⟩ = some (.int .i64 kk) ∧ w'.cell? ⟨B2, 1, none⟩ = some (.int .i64 nn) ∧ w'.cell? ⟨B2, 2, none⟩ = some (.string s) ∧ Below w.heap.size w w') (first | assumption | exact drawP (by assumption) | go_keep) (first
      | ((with_reducible refine (C1.out _).mono ?_); rintro e w8 ⟨rfl, hb8⟩; have k8 := keepP (by assumption) hb8)
      | ((with_reducible refine (C2.out _ (HG.out.next (belowP (by assumption)))).mono ?_); rintro e w8 ⟨rfl, hb8⟩; have k8 := keepP (by assumption) hb8)
      | ((with_reducible refine (C3.out _).mono ?_); rintro e w8 ⟨rfl, hb8⟩; have k8 := keepP (by assumption) hb8))
  all_goals
    have HB9 : Hid (Below w.heap.size w w8) := Lib.hid (belowP (by assumption))
    go_wp2_with fail
    go_ret
    exact ⟨rfl, HB9.out⟩
set_option maxRecDepth 100000 in
set_option maxHeartbeats 2000000 in
theorem print_d (l z p bl : Bool) (wd pr : Int) (pc : Bool) (k kk nn n m : Int) (s SG T R : ByteArray) (b : Bool) (w : World) (h1 : k ≠ 115) (h2 : k ≠ 99) (h3 : k ≠ 102) (hb : decide (m < 0) = b) (HG : Hid (Gf w))
    (C0 : Hid (∀ W, Calls Tryz.prog 28 #[.agg #[.int .i64 kk, .int .i64 nn, .string s]] W fun e w' => e = .returned (.int .i64 n) ∧ Below W.heap.size W w'))
    (CW : Hid (∀ W, Calls Tryz.prog 31 #[.int .i64 n] W fun e w' => e = .returned (.int .i64 m) ∧ W = w'))
    (C1 : Hid (∀ W, Calls Tryz.prog 29 #[.agg #[.bool l, .bool z, .bool p, .bool bl, .int .i64 wd, .int .i64 pr, .bool pc, .int .u8 k], .bool b] W fun e w' => e = .returned (.string SG) ∧ Below W.heap.size W w'))
    (C2 : Hid (∀ W, Gf W → Calls Tryz.prog 32 #[.agg #[.bool l, .bool z, .bool p, .bool bl, .int .i64 wd, .int .i64 pr, .bool pc, .int .u8 k], .int .i64 m] W fun e w' => e = .returned (.string T) ∧ Below W.heap.size W w'))
    (C3 : Hid (∀ W, Calls Tryz.prog 25 #[.agg #[.bool l, .bool z, .bool p, .bool bl, .int .i64 wd, .int .i64 pr, .bool pc, .int .u8 k], .string SG, .string T] W fun e w' => e = .returned (.string R) ∧ Below W.heap.size W w')) :
    Calls Tryz.prog 13 #[.agg #[.bool l, .bool z, .bool p, .bool bl, .int .i64 wd, .int .i64 pr, .bool pc, .int .u8 k], .agg #[.int .i64 kk, .int .i64 nn, .string s]] w fun e w' => e = .returned (.string R) ∧ Below w.heap.size w w' := by
  have g1 : (k == 115) = false := by simpa using h1
  have g2 : (k == 99) = false := by simpa using h2
  have g3 : (k == 102) = false := by simpa using h3
  go_enter Tryz.func13, Tryz.ntmps13
  go_wp2_with fail
  generalize hX : Obj.cells #[Value.bool l, Value.bool z, Value.bool p, Value.bool bl, Value.int .i64 wd, Value.int .i64 pr, Value.bool pc, Value.int .u8 k] 41 = X
  generalize hY : Obj.cells #[Value.int .i64 kk, Value.int .i64 nn, Value.string s] 36 = Y
  obtain ⟨B1, hB1⟩ : ∃ B, w.heap.size = B := ⟨_, rfl⟩
  obtain ⟨B2, hB2⟩ : ∃ B, w.heap.size + 1 = B := ⟨_, rfl⟩
  have hs : ((w.alloc X).alloc Y).cell? ⟨B1, 0, none⟩ = some (.bool l) ∧ ((w.alloc X).alloc Y).cell? ⟨B1, 1, none⟩ = some (.bool z) ∧ ((w.alloc X).alloc Y).cell? ⟨B1, 2, none⟩ = some (.bool p) ∧ ((w.alloc X).alloc Y).cell? ⟨B1, 3, none⟩ = some (.bool bl) ∧ ((w.alloc X).alloc Y).cell? ⟨B1, 4, none⟩ = some (.int .i64 wd) ∧ ((w.alloc X).alloc Y).cell? ⟨B1, 5, none⟩ = some (.int .i64 pr) ∧ ((w.alloc X).alloc Y).cell? ⟨B1, 6, none⟩ = some (.bool pc) ∧ ((w.alloc X).alloc Y).cell? ⟨B1, 7, none⟩ = some (.int .u8 k) ∧ ((w.alloc X).alloc Y).cell? ⟨B2, 0, none⟩ = some (.int .i64 kk) ∧ ((w.alloc X).alloc Y).cell? ⟨B2, 1, none⟩ = some (.int .i64 nn) ∧ ((w.alloc X).alloc Y).cell? ⟨B2, 2, none⟩ = some (.string s) ∧ Below w.heap.size w ((w.alloc X).alloc Y) := by
    rw [← hX, ← hY, ← hB1, ← hB2]
    refine ⟨by simp [go_sem], by simp [go_sem], by simp [go_sem], by simp [go_sem], by simp [go_sem], by simp [go_sem], by simp [go_sem], by simp [go_sem], by simp [go_sem], by simp [go_sem], by simp [go_sem], ((Below.refl _ _).alloc (Nat.le_refl _) _).alloc (by simp) _⟩
  clear hX hY
  rw [hB2, hB1]
  generalize (w.alloc X).alloc Y = w0 at *
  clear hB1 hB2
  refine (C0.out _).mono ?_
  rintro e w1 ⟨rfl, hb1⟩
  have k1 := keepP hs hb1
  have HB1 := Lib.hid (belowP k1)
  clear hs hb1
  obtain ⟨c0, c1, c2, c3, c4, c5, c6, c7, d0, d1, d2, -⟩ := k1
  go_wp2_with ((with_reducible refine (CW.out _).mono ?_); rintro e w' ⟨rfl, rfl⟩)
  have hs1 : w1.cell? ⟨B1, 0, none⟩ = some (.bool l) ∧ w1.cell? ⟨B1, 1, none⟩ = some (.bool z) ∧ w1.cell? ⟨B1, 2, none⟩ = some (.bool p) ∧ w1.cell? ⟨B1, 3, none⟩ = some (.bool bl) ∧ w1.cell? ⟨B1, 4, none⟩ = some (.int .i64 wd) ∧ w1.cell? ⟨B1, 5, none⟩ = some (.int .i64 pr) ∧ w1.cell? ⟨B1, 6, none⟩ = some (.bool pc) ∧ w1.cell? ⟨B1, 7, none⟩ = some (.int .u8 k) ∧ w1.cell? ⟨B2, 0, none⟩ = some (.int .i64 kk) ∧ w1.cell? ⟨B2, 1, none⟩ = some (.int .i64 nn) ∧ w1.cell? ⟨B2, 2, none⟩ = some (.string s) ∧ Below w.heap.size w w1 := ⟨c0, c1, c2, c3, c4, c5, c6, c7, d0, d1, d2, HB1.out⟩
  clear c0 c1 c2 c3 c4 c5 c6 c7 d0 d1 d2
  go_region_held3 (fun w' => w'.cell? ⟨B1, 0, none⟩ = some (.bool l) ∧ w'.cell? ⟨B1, 1, none⟩ = some (.bool z) ∧ w'.cell? ⟨B1, 2, none⟩ = some (.bool p) ∧ w'.cell? ⟨B1, 3, none⟩ = some (.bool bl) ∧ w'.cell? ⟨B1, 4, none⟩ = some (.int .i64 wd) ∧ w'.cell? ⟨B1, 5, none⟩ = some (.int .i64 pr) ∧ w'.cell? ⟨B1, 6, none⟩ = some (.bool pc) ∧ w'.cell? ⟨B1, 7, none⟩ = some (.int .u8 k) ∧ w'.cell? ⟨B2, 0, none⟩ = some (.int .i64 kk) ∧ w'.cell? ⟨B2, 1, none⟩ = some (.int .i64 nn) ∧ w'.cell? ⟨B2, 2, none⟩ = some (.string s) ∧ Below w.heap.size w w') (first | assumption | exact drawP (by assumption) | go_keep) (first
      | ((with_reducible refine (C1.out _).mono ?_); rintro e w8 ⟨rfl, hb8⟩; have k8 := keepP (by assumption) hb8)
      | ((with_reducible refine (C2.out _ (HG.out.next (belowP (by assumption)))).mono ?_); rintro e w8 ⟨rfl, hb8⟩; have k8 := keepP (by assumption) hb8)
      | ((with_reducible refine (C3.out _).mono ?_); rintro e w8 ⟨rfl, hb8⟩; have k8 := keepP (by assumption) hb8))
  all_goals
    have HB9 : Hid (Below w.heap.size w w8) := Lib.hid (belowP (by assumption))
    go_wp2_with fail
    go_ret
    exact ⟨rfl, HB9.out⟩
end Go.Proofs.YtipcanbeegladaaGreatDoor
