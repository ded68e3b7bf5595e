/-
  CONTRACTS of layer 6's Compare and of the statements' own Cut and awake; nothing that was there is written. Condition: the library's table of powers of ten is as it was laid.
-/
import Derived.Test.YtnickicmfogahaaDoorCellW2
import Derived.Deep.RegionHeld3
namespace Go.Proofs.YtnickicmfogahaaDoor
open Go.RowKit

/-- Six cells (two values in memory) keep what they hold behind a call that writes to nothing that was there. -/
theorem keep6 {W w w3 : World} {a b : Nat} {x1 x2 x3 y1 y2 y3 : Value}
    (h : w.cell? ⟨a, 0, none⟩ = some x1 ∧ w.cell? ⟨a, 1, none⟩ = some x2 ∧ w.cell? ⟨a, 2, none⟩ = some x3 ∧ w.cell? ⟨b, 0, none⟩ = some y1 ∧ w.cell? ⟨b, 1, none⟩ = some y2 ∧ w.cell? ⟨b, 2, none⟩ = some y3 ∧ Below W.heap.size W w) (hb : Below w.heap.size w w3) :
    w3.cell? ⟨a, 0, none⟩ = some x1 ∧ w3.cell? ⟨a, 1, none⟩ = some x2 ∧ w3.cell? ⟨a, 2, none⟩ = some x3 ∧ w3.cell? ⟨b, 0, none⟩ = some y1 ∧ w3.cell? ⟨b, 1, none⟩ = some y2 ∧ w3.cell? ⟨b, 2, none⟩ = some y3 ∧ Below W.heap.size W w3 := by
  have k : ∀ {c o : Nat} {x : Value}, w.cell? ⟨c, o, none⟩ = some x → w3.cell? ⟨c, o, none⟩ = some x := fun h => (hb.cell (p := ⟨_, _, none⟩) (World.block_lt_of_cell? _ _ h)).trans h
  obtain ⟨h1, h2, h3, h4, h5, h6, h7⟩ := h
  exact ⟨k h1, k h2, k h3, k h4, k h5, k h6, h7.trans (hb.mono h7.size)⟩
theorem below6 {W w : World} {a b : Nat} {x1 x2 x3 y1 y2 y3 : Value}
    (h : w.cell? ⟨a, 0, none⟩ = some x1 ∧ w.cell? ⟨a, 1, none⟩ = some x2 ∧ w.cell? ⟨a, 2, none⟩ = some x3 ∧ w.cell? ⟨b, 0, none⟩ = some y1 ∧ w.cell? ⟨b, 1, none⟩ = some y2 ∧ w.cell? ⟨b, 2, none⟩ = some y3 ∧ Below W.heap.size W w) : Below W.heap.size W w := h.2.2.2.2.2.2
theorem draw6 {W w : World} {a b : Nat} {x1 x2 x3 y1 y2 y3 : Value}
    (h : w.cell? ⟨a, 0, none⟩ = some x1 ∧ w.cell? ⟨a, 1, none⟩ = some x2 ∧ w.cell? ⟨a, 2, none⟩ = some x3 ∧ w.cell? ⟨b, 0, none⟩ = some y1 ∧ w.cell? ⟨b, 1, none⟩ = some y2 ∧ w.cell? ⟨b, 2, none⟩ = some y3 ∧ Below W.heap.size W w) :
    w.drew.cell? ⟨a, 0, none⟩ = some x1 ∧ w.drew.cell? ⟨a, 1, none⟩ = some x2 ∧ w.drew.cell? ⟨a, 2, none⟩ = some x3 ∧ w.drew.cell? ⟨b, 0, none⟩ = some y1 ∧ w.drew.cell? ⟨b, 1, none⟩ = some y2 ∧ w.drew.cell? ⟨b, 2, none⟩ = some y3 ∧ Below W.heap.size W w.drew :=
  ⟨h.1, h.2.1, h.2.2.1, h.2.2.2.1, h.2.2.2.2.1, h.2.2.2.2.2.1, h.2.2.2.2.2.2.drew⟩
def cmpI (a b : Int) : Int := if a < b then -1 else if b < a then 1 else 0
theorem cmpn_any (a b : Int) (w : World) :
    Calls Tryd.prog 33 #[.int .i64 a, .int .i64 b] w fun e w' => e = .returned (.int .i64 (cmpI a b)) ∧ w = w' := by
  unfold cmpI
  by_cases h1 : a < b
  · go_enter Tryd.func33, Tryd.ntmps33
    go_wp2
    go_ret
    exact ⟨ret_i (by simp), rfl⟩
  · by_cases h2 : b < a
    · go_enter Tryd.func33, Tryd.ntmps33
      go_wp2
      go_ret
      exact ⟨ret_i (by simp), rfl⟩
    · go_enter Tryd.func33, Tryd.ntmps33
      go_wp2
      go_ret
      exact ⟨ret_i (by simp), rfl⟩
def compC (k1 n1 : Int) (s1 : ByteArray) (k2 n2 : Int) (s2 : ByteArray) : Int :=
  if k1 = 2 ∨ k2 = 2 then Lib.compareBytes (strC k1 n1 s1).data.toList (strC k2 n2 s2).data.toList else cmpI n1 n2
set_option maxHeartbeats 2000000 in
/-- Where one of both is a text. -/
theorem comp_text (k1 n1 : Int) (s1 : ByteArray) (k2 n2 : Int) (s2 : ByteArray) (t1 t2 : ByteArray) (w : World) (hk : k1 = 2 ∨ k2 = 2) (HG : Hid (Gl w))
    (C1 : Hid (∀ W, Gl W → Calls Tryd.prog 30 #[.agg #[.int .i64 k1, .int .i64 n1, .string s1]] W fun e w' => e = .returned (.string t1) ∧ Below W.heap.size W w'))
    (C2 : Hid (∀ W, Gl W → Calls Tryd.prog 30 #[.agg #[.int .i64 k2, .int .i64 n2, .string s2]] W fun e w' => e = .returned (.string t2) ∧ Below W.heap.size W w')) :
    Calls Tryd.prog 16 #[.agg #[.int .i64 k1, .int .i64 n1, .string s1], .agg #[.int .i64 k2, .int .i64 n2, .string s2]] w fun e w' => e = .returned (.int .i64 (Lib.compareBytes t1.data.toList t2.data.toList)) ∧ Below w.heap.size w w' := by
  have C3 := Lib.hid fun W => Tryd.strings_Compare t1 t2 W
  have hk' : k1 = 2 ∨ (k1 ≠ 2 ∧ k2 = 2) := by omega
  clear hk
  rcases hk' with rfl | ⟨hk1, rfl⟩
  · go_enter Tryd.func16, Tryd.ntmps16
    go_wp2_with fail
    generalize hX : Obj.cells #[Value.int .i64 2, Value.int .i64 n1, Value.string s1] 24 = X
    generalize hY : Obj.cells #[Value.int .i64 k2, Value.int .i64 n2, Value.string s2] 24 = Y
    have hs : ((w.alloc X).alloc Y).cell? ⟨w.heap.size, 0, none⟩ = some (.int .i64 2) ∧ ((w.alloc X).alloc Y).cell? ⟨w.heap.size, 1, none⟩ = some (.int .i64 n1) ∧ ((w.alloc X).alloc Y).cell? ⟨w.heap.size, 2, none⟩ = some (.string s1) ∧ ((w.alloc X).alloc Y).cell? ⟨w.heap.size + 1, 0, none⟩ = some (.int .i64 k2) ∧ ((w.alloc X).alloc Y).cell? ⟨w.heap.size + 1, 1, none⟩ = some (.int .i64 n2) ∧ ((w.alloc X).alloc Y).cell? ⟨w.heap.size + 1, 2, none⟩ = some (.string s2) ∧ Below w.heap.size w ((w.alloc X).alloc Y) := by
      rw [← hX, ← hY]
      refine ⟨by simp [go_sem], by simp [go_sem], by simp [go_sem], by simp [go_sem], by simp [go_sem], by simp [go_sem], ((Below.refl _ _).alloc (Nat.le_refl _) _).alloc (by simp) _⟩
    clear hX hY
    generalize (w.alloc X).alloc Y = w0 at *
    go_region_held3 (fun w' => w'.cell? ⟨w.heap.size, 0, none⟩ = some (.int .i64 2) ∧ w'.cell? ⟨w.heap.size, 1, none⟩ = some (.int .i64 n1) ∧ w'.cell? ⟨w.heap.size, 2, none⟩ = some (.string s1) ∧ w'.cell? ⟨w.heap.size + 1, 0, none⟩ = some (.int .i64 k2) ∧ w'.cell? ⟨w.heap.size + 1, 1, none⟩ = some (.int .i64 n2) ∧ w'.cell? ⟨w.heap.size + 1, 2, none⟩ = some (.string s2) ∧ Below w.heap.size w w') (first | assumption | exact draw6 (by assumption) | go_keep) (first
      | ((with_reducible refine (C1.out _ (HG.out.next (below6 (by assumption)))).mono ?_); rintro e w8 ⟨rfl, hb8⟩; have k8 := keep6 (by assumption) hb8)
      | ((with_reducible refine (C2.out _ (HG.out.next (below6 (by assumption)))).mono ?_); rintro e w8 ⟨rfl, hb8⟩; have k8 := keep6 (by assumption) hb8)
      | ((with_reducible refine (C3.out _).mono ?_); rintro e w8 ⟨rfl, rfl⟩))
    all_goals
      have HB9 : Hid (Below w.heap.size w w8) := Lib.hid (below6 (by assumption))
      go_wp2_with fail
      go_ret
      exact ⟨rfl, HB9.out⟩
  · go_enter Tryd.func16, Tryd.ntmps16
    go_wp2_with fail
    generalize hX : Obj.cells #[Value.int .i64 k1, Value.int .i64 n1, Value.string s1] 24 = X
    generalize hY : Obj.cells #[Value.int .i64 2, Value.int .i64 n2, Value.string s2] 24 = Y
    have hs : ((w.alloc X).alloc Y).cell? ⟨w.heap.size, 0, none⟩ = some (.int .i64 k1) ∧ ((w.alloc X).alloc Y).cell? ⟨w.heap.size, 1, none⟩ = some (.int .i64 n1) ∧ ((w.alloc X).alloc Y).cell? ⟨w.heap.size, 2, none⟩ = some (.string s1) ∧ ((w.alloc X).alloc Y).cell? ⟨w.heap.size + 1, 0, none⟩ = some (.int .i64 2) ∧ ((w.alloc X).alloc Y).cell? ⟨w.heap.size + 1, 1, none⟩ = some (.int .i64 n2) ∧ ((w.alloc X).alloc Y).cell? ⟨w.heap.size + 1, 2, none⟩ = some (.string s2) ∧ Below w.heap.size w ((w.alloc X).alloc Y) := by
      rw [← hX, ← hY]
      refine ⟨by simp [go_sem], by simp [go_sem], by simp [go_sem], by simp [go_sem], by simp [go_sem], by simp [go_sem], ((Below.refl _ _).alloc (Nat.le_refl _) _).alloc (by simp) _⟩
    clear hX hY
    generalize (w.alloc X).alloc Y = w0 at *
    go_region_held3 (fun w' => w'.cell? ⟨w.heap.size, 0, none⟩ = some (.int .i64 k1) ∧ w'.cell? ⟨w.heap.size, 1, none⟩ = some (.int .i64 n1) ∧ w'.cell? ⟨w.heap.size, 2, none⟩ = some (.string s1) ∧ w'.cell? ⟨w.heap.size + 1, 0, none⟩ = some (.int .i64 2) ∧ w'.cell? ⟨w.heap.size + 1, 1, none⟩ = some (.int .i64 n2) ∧ w'.cell? ⟨w.heap.size + 1, 2, none⟩ = some (.string s2) ∧ Below w.heap.size w w') (first | assumption | exact draw6 (by assumption) | go_keep) (first
      | ((with_reducible refine (C1.out _ (HG.out.next (below6 (by assumption)))).mono ?_); rintro e w8 ⟨rfl, hb8⟩; have k8 := keep6 (by assumption) hb8)
      | ((with_reducible refine (C2.out _ (HG.out.next (below6 (by assumption)))).mono ?_); rintro e w8 ⟨rfl, hb8⟩; have k8 := keep6 (by assumption) hb8)
      | ((with_reducible refine (C3.out _).mono ?_); rintro e w8 ⟨rfl, rfl⟩))
    all_goals
      have HB9 : Hid (Below w.heap.size w w8) := Lib.hid (below6 (by assumption))
      go_wp2_with fail
      go_ret
      exact ⟨rfl, HB9.out⟩
theorem comp_num (k1 n1 : Int) (s1 : ByteArray) (k2 n2 : Int) (s2 : ByteArray) (w : World) (h1 : k1 ≠ 2) (h2 : k2 ≠ 2) :
    Calls Tryd.prog 16 #[.agg #[.int .i64 k1, .int .i64 n1, .string s1], .agg #[.int .i64 k2, .int .i64 n2, .string s2]] w fun e w' => e = .returned (.int .i64 (cmpI n1 n2)) ∧ Below w.heap.size w w' := by
  have h1' : (k1 == 2) = false := by simpa using h1
  have h2' : (k2 == 2) = false := by simpa using h2
  go_enter Tryd.func16, Tryd.ntmps16
  go_wp2_with fail
  refine (cmpn_any n1 n2 _).mono ?_
  rintro e w1 ⟨rfl, rfl⟩
  go_wp2_with fail
  go_ret
  exact ⟨rfl, ((Below.refl _ _).alloc (Nat.le_refl _) _).alloc (by simp) _⟩
theorem comp_any (k1 n1 : Int) (s1 : ByteArray) (k2 n2 : Int) (s2 : ByteArray) (w : World) (h1 : k1 = 1 → OkN n1) (h2 : k2 = 1 → OkN n2) (G : Gl w) :
    Calls Tryd.prog 16 #[cv k1 n1 s1, cv k2 n2 s2] w fun e w' => e = .returned (.int .i64 (compC k1 n1 s1 k2 n2 s2)) ∧ Below w.heap.size w w' := by
  unfold compC
  by_cases hk : k1 = 2 ∨ k2 = 2
  · rw [if_pos hk]
    exact comp_text k1 n1 s1 k2 n2 s2 _ _ w hk (Lib.hid G) (Lib.hid fun W G => ctext_any k1 n1 s1 W h1 G) (Lib.hid fun W G => ctext_any k2 n2 s2 W h2 G)
  · rw [if_neg hk]
    exact comp_num k1 n1 s1 k2 n2 s2 w (fun h => hk (.inl h)) (fun h => hk (.inr h))
/-- The statements' own Cut: of a value's text the first 100 bytes. -/
theorem lcut_any (k n : Int) (s : ByteArray) (w : World) (hs : s.size ≤ maxLen) :
    Calls Tryd.prog 5 #[cv k n s] w fun e w' => e = .returned (cv k n (cutB s 100)) ∧ Below w.heap.size w w' := by
  have C0 : Hid (∀ W, Calls Tryd.prog 18 #[.string s, .int .i64 100] W fun e w' => e = .returned (.string (cutB s 100)) ∧ W = w') := Lib.hid fun W => cut_any s 100 W hs (by omega)
  generalize cutB s 100 = t at *
  unfold cv
  go_enter Tryd.func5, Tryd.ntmps5
  go_wp2_with ((with_reducible refine (C0.out _).mono ?_); rintro e w' ⟨rfl, rfl⟩)
  refine bodyPost_ret (v := cv k n t) ?_ rfl ⟨rfl, ((Below.refl _ _).alloc (Nat.le_refl _) _).alloc (by simp) _⟩
  simp [results, Tryd.results5, go_sem, cv]
theorem awc1 : looksL [32, 49, 48, 32] = (10000000, true) := by decide +kernel
theorem awc2 : looksL [57] = (9000000, true) := by decide +kernel
theorem awc3 : compC 3 10000000 ⟨#[32, 49, 48, 32]⟩ 3 9000000 ⟨#[57]⟩ = 1 := by decide +kernel
theorem awc4 : compC 2 0 ⟨#[49, 48]⟩ 3 9000000 ⟨#[57]⟩ = -1 := by decide +kernel
theorem awc5 : compC 0 0 ⟨#[]⟩ 1 0 ⟨#[]⟩ = 0 := by decide +kernel
theorem awc6 : compC 0 0 ⟨#[]⟩ 2 0 ⟨#[]⟩ = 0 := by decide +kernel
set_option maxHeartbeats 2000000 in
theorem cawake_any (w : World) (G : Gl w) :
    Calls Tryd.prog 7 #[] w fun e w' => e = .returned (.bool true) ∧ Below w.heap.size w w' := by
  have i1 := fun W => input_any ⟨#[32, 49, 48, 32]⟩ W (by decide)
  have i2 := fun W => input_any ⟨#[57]⟩ W (by decide)
  rw [show inK (⟨#[32, 49, 48, 32]⟩ : ByteArray).data.toList = 3 from by unfold inK; rw [show (⟨#[32, 49, 48, 32]⟩ : ByteArray).data.toList = [32, 49, 48, 32] from rfl, awc1]; rfl, show inN (⟨#[32, 49, 48, 32]⟩ : ByteArray).data.toList = 10000000 from by unfold inN; rw [show (⟨#[32, 49, 48, 32]⟩ : ByteArray).data.toList = [32, 49, 48, 32] from rfl, awc1]; rfl] at i1
  rw [show inK (⟨#[57]⟩ : ByteArray).data.toList = 3 from by unfold inK; rw [show (⟨#[57]⟩ : ByteArray).data.toList = [57] from rfl, awc2]; rfl, show inN (⟨#[57]⟩ : ByteArray).data.toList = 9000000 from by unfold inN; rw [show (⟨#[57]⟩ : ByteArray).data.toList = [57] from rfl, awc2]; rfl] at i2
  have m1 := fun W => text_mk ⟨#[49, 48]⟩ W (by decide)
  have m2 := fun W => text_mk ⟨#[]⟩ W (by decide)
  have m3 := fun W => of_any 0 W
  have p1 := fun W G => comp_any 3 10000000 ⟨#[32, 49, 48, 32]⟩ 3 9000000 ⟨#[57]⟩ W (fun h => by cases h) (fun h => by cases h) G
  have p2 := fun W G => comp_any 2 0 ⟨#[49, 48]⟩ 3 9000000 ⟨#[57]⟩ W (fun h => by cases h) (fun h => by cases h) G
  have p3 := fun W G => comp_any 0 0 ⟨#[]⟩ 1 0 ⟨#[]⟩ W (fun h => by cases h) (fun _ => by unfold OkN; omega) G
  have p4 := fun W G => comp_any 0 0 ⟨#[]⟩ 2 0 ⟨#[]⟩ W (fun h => by cases h) (fun h => by cases h) G
  rw [awc3] at p1
  rw [awc4] at p2
  rw [awc5] at p3
  rw [awc6] at p4
  unfold cv at i1 i2 m1 m2 m3 p1 p2 p3 p4
  have I1 := Lib.hid i1
  have I2 := Lib.hid i2
  have M1 := Lib.hid m1
  have M2 := Lib.hid m2
  have M3 := Lib.hid m3
  have P1 := Lib.hid p1
  have P2 := Lib.hid p2
  have P3 := Lib.hid p3
  have P4 := Lib.hid p4
  have HG := Lib.hid G
  clear i1 i2 m1 m2 m3 p1 p2 p3 p4 G
  go_enter Tryd.func7, Tryd.ntmps7
  go_wp2_with fail
  refine (I1.out _).mono ?_
  rintro e w1 ⟨rfl, hb1⟩
  have HB1 := Lib.hid hb1
  clear hb1
  go_wp2_with fail
  refine (I2.out _).mono ?_
  rintro e w2 ⟨rfl, hb2⟩
  have HB2 := Lib.hid (HB1.out.trans (hb2.mono HB1.out.size))
  clear hb2 HB1
  go_wp2_with fail
  generalize hX : Obj.cells #[Value.int .i64 3, Value.int .i64 10000000, Value.string ⟨#[32, 49, 48, 32]⟩] 24 = X
  generalize hY : Obj.cells #[Value.int .i64 3, Value.int .i64 9000000, Value.string ⟨#[57]⟩] 24 = Y
  obtain ⟨B1, hB1⟩ : ∃ B, w2.heap.size = B := ⟨_, rfl⟩
  obtain ⟨B2, hB2⟩ : ∃ B, w2.heap.size + 1 = B := ⟨_, rfl⟩
  have hs : ((w2.alloc X).alloc Y).cell? ⟨B1, 0, none⟩ = some (.int .i64 3) ∧ ((w2.alloc X).alloc Y).cell? ⟨B1, 1, none⟩ = some (.int .i64 10000000) ∧ ((w2.alloc X).alloc Y).cell? ⟨B1, 2, none⟩ = some (.string ⟨#[32, 49, 48, 32]⟩) ∧ ((w2.alloc X).alloc Y).cell? ⟨B2, 0, none⟩ = some (.int .i64 3) ∧ ((w2.alloc X).alloc Y).cell? ⟨B2, 1, none⟩ = some (.int .i64 9000000) ∧ ((w2.alloc X).alloc Y).cell? ⟨B2, 2, none⟩ = some (.string ⟨#[57]⟩) ∧ Below w.heap.size w ((w2.alloc X).alloc Y) := by
    rw [← hX, ← hY, ← hB1, ← hB2]
    refine ⟨by simp [go_sem], by simp [go_sem], by simp [go_sem], by simp [go_sem], by simp [go_sem], by simp [go_sem], (HB2.out.alloc HB2.out.size _).alloc (by have := HB2.out.size; simp; omega) _⟩
  clear hX hY
  rw [hB2, hB1]
  generalize (w2.alloc X).alloc Y = w0 at *
  clear hB1 hB2
  go_region_held3 (fun w' => w'.cell? ⟨B1, 0, none⟩ = some (.int .i64 3) ∧ w'.cell? ⟨B1, 1, none⟩ = some (.int .i64 10000000) ∧ w'.cell? ⟨B1, 2, none⟩ = some (.string ⟨#[32, 49, 48, 32]⟩) ∧ w'.cell? ⟨B2, 0, none⟩ = some (.int .i64 3) ∧ w'.cell? ⟨B2, 1, none⟩ = some (.int .i64 9000000) ∧ w'.cell? ⟨B2, 2, none⟩ = some (.string ⟨#[57]⟩) ∧ Below w.heap.size w w') (first | assumption | exact draw6 (by assumption) | go_keep) (first
    | ((with_reducible refine (P1.out _ (HG.out.next (below6 (by assumption)))).mono ?_); rintro e w8 ⟨rfl, hb8⟩; have k8 := keep6 (by assumption) hb8)
    | ((with_reducible refine (P2.out _ (HG.out.next (below6 (by assumption)))).mono ?_); rintro e w8 ⟨rfl, hb8⟩; have k8 := keep6 (by assumption) hb8)
    | ((with_reducible refine (P3.out _ (HG.out.next (below6 (by assumption)))).mono ?_); rintro e w8 ⟨rfl, hb8⟩; have k8 := keep6 (by assumption) hb8)
    | ((with_reducible refine (P4.out _ (HG.out.next (below6 (by assumption)))).mono ?_); rintro e w8 ⟨rfl, hb8⟩; have k8 := keep6 (by assumption) hb8)
    | ((with_reducible refine (M1.out _).mono ?_); rintro e w8 ⟨rfl, hb8⟩; have k8 := keep6 (by assumption) hb8)
    | ((with_reducible refine (M2.out _).mono ?_); rintro e w8 ⟨rfl, hb8⟩; have k8 := keep6 (by assumption) hb8)
    | ((with_reducible refine (M3.out _).mono ?_); rintro e w8 ⟨rfl, hb8⟩; have k8 := keep6 (by assumption) hb8))
  all_goals
    have HB9 : Hid (Below w.heap.size w w8) := Lib.hid (below6 (by assumption))
    go_wp2_with fail
    go_ret
    exact ⟨rfl, HB9.out⟩
end Go.Proofs.YtnickicmfogahaaDoor
