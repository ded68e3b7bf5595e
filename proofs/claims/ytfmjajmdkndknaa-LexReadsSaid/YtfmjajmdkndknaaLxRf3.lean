/-
  CONTRACT of the document's own answer for layer 11: one.
-/
import Derived.Test.YtfmjajmdkndknaaLxRf2
namespace Go.Proofs.Ytfmjajmdkndknaa
open Go.RowKit

/-- What one hands back. -/
def RoPost (p : Nat) (w : World) (x : St) (e : Ending) (w' : World) : Prop :=
  (match x with
   | .tok k t z => e = .returned (.tuple #[.agg #[.int .i64 k, .string ⟨t.toArray⟩, .int .i64 p], .int .i64 ((p + z : Nat) : Int)])
   | .bad b => ∃ k t a, e = .returned (.tuple #[.agg #[.int .i64 k, .string t, .int .i64 a], .int .i64 (if b = 0 then -1 else -2 - ((p + b : Nat) : Int))])
   | .eof => False) ∧ Below w.heap.size w w'
theorem am_w (t : ByteArray) (b : Bool) (h : decide (t.data.toList ∈ wordsL) = b) (W : World) : Calls Try.prog 34 #[.string t, .string ⟨#[66, 69, 71, 73, 78, 32, 69, 78, 68, 32, 102, 117, 110, 99, 116, 105, 111, 110, 32, 105, 102, 32, 101, 108, 115, 101, 32, 119, 104, 105, 108, 101, 32, 102, 111, 114, 32, 105, 110, 32, 98, 114, 101, 97, 107, 32, 99, 111, 110, 116, 105, 110, 117, 101, 32, 110, 101, 120, 116, 32, 101, 120, 105, 116, 32, 114, 101, 116, 117, 114, 110, 32, 100, 101, 108, 101, 116, 101, 32, 112, 114, 105, 110, 116, 32, 112, 114, 105, 110, 116, 102]⟩] W fun e w' => e = .returned (.bool b) ∧ w' = W := among_is t ⟨#[66, 69, 71, 73, 78, 32, 69, 78, 68, 32, 102, 117, 110, 99, 116, 105, 111, 110, 32, 105, 102, 32, 101, 108, 115, 101, 32, 119, 104, 105, 108, 101, 32, 102, 111, 114, 32, 105, 110, 32, 98, 114, 101, 97, 107, 32, 99, 111, 110, 116, 105, 110, 117, 101, 32, 110, 101, 120, 116, 32, 101, 120, 105, 116, 32, 114, 101, 116, 117, 114, 110, 32, 100, 101, 108, 101, 116, 101, 32, 112, 114, 105, 110, 116, 32, 112, 114, 105, 110, 116, 102]⟩ wordsL (by decide) b h W (by decide)
theorem am_b (t : ByteArray) (b : Bool) (h : decide (t.data.toList ∈ builtL) = b) (W : World) : Calls Try.prog 34 #[.string t, .string ⟨#[108, 101, 110, 103, 116, 104, 32, 115, 117, 98, 115, 116, 114, 32, 105, 110, 100, 101, 120, 32, 115, 112, 108, 105, 116, 32, 115, 117, 98, 32, 103, 115, 117, 98, 32, 109, 97, 116, 99, 104, 32, 116, 111, 108, 111, 119, 101, 114, 32, 116, 111, 117, 112, 112, 101, 114, 32, 105, 110, 116, 32, 115, 112, 114, 105, 110, 116, 102, 32, 114, 97, 110, 100, 32, 115, 114, 97, 110, 100]⟩] W fun e w' => e = .returned (.bool b) ∧ w' = W := among_is t ⟨#[108, 101, 110, 103, 116, 104, 32, 115, 117, 98, 115, 116, 114, 32, 105, 110, 100, 101, 120, 32, 115, 112, 108, 105, 116, 32, 115, 117, 98, 32, 103, 115, 117, 98, 32, 109, 97, 116, 99, 104, 32, 116, 111, 108, 111, 119, 101, 114, 32, 116, 111, 117, 112, 112, 101, 114, 32, 105, 110, 116, 32, 115, 112, 114, 105, 110, 116, 102, 32, 114, 97, 110, 100, 32, 115, 114, 97, 110, 100]⟩ builtL (by decide) b h W (by decide)
theorem am_n (t : ByteArray) (b : Bool) (h : decide (t.data.toList ∈ bannL) = b) (W : World) : Calls Try.prog 34 #[.string t, .string ⟨#[103, 101, 116, 108, 105, 110, 101, 32, 115, 121, 115, 116, 101, 109, 32, 99, 108, 111, 115, 101, 32, 102, 102, 108, 117, 115, 104, 32, 115, 121, 115, 116, 105, 109, 101, 32, 115, 116, 114, 102, 116, 105, 109, 101]⟩] W fun e w' => e = .returned (.bool b) ∧ w' = W := among_is t ⟨#[103, 101, 116, 108, 105, 110, 101, 32, 115, 121, 115, 116, 101, 109, 32, 99, 108, 111, 115, 101, 32, 102, 102, 108, 117, 115, 104, 32, 115, 121, 115, 116, 105, 109, 101, 32, 115, 116, 114, 102, 116, 105, 109, 101]⟩ bannL (by decide) b h W (by decide)
theorem am_2 (t : ByteArray) (b : Bool) (h : decide (t.data.toList ∈ signsL) = b) (W : World) : Calls Try.prog 34 #[.string t, .string ⟨#[43, 61, 32, 45, 61, 32, 42, 61, 32, 47, 61, 32, 37, 61, 32, 61, 61, 32, 60, 61, 32, 62, 61, 32, 33, 61, 32, 43, 43, 32, 45, 45, 32, 38, 38, 32, 124, 124, 32, 62, 62, 32, 33, 126]⟩] W fun e w' => e = .returned (.bool b) ∧ w' = W := among_is t ⟨#[43, 61, 32, 45, 61, 32, 42, 61, 32, 47, 61, 32, 37, 61, 32, 61, 61, 32, 60, 61, 32, 62, 61, 32, 33, 61, 32, 43, 43, 32, 45, 45, 32, 38, 38, 32, 124, 124, 32, 62, 62, 32, 33, 126]⟩ signsL (by decide) b h W (by decide)
theorem am_1 (t : ByteArray) (b : Bool) (h : decide (t.data.toList ∈ signsC.map (fun c => [c])) = b) (W : World) : Calls Try.prog 34 #[.string t, .string ⟨#[123, 32, 125, 32, 40, 32, 41, 32, 91, 32, 93, 32, 59, 32, 44, 32, 43, 32, 45, 32, 42, 32, 47, 32, 37, 32, 33, 32, 62, 32, 60, 32, 124, 32, 63, 32, 58, 32, 126, 32, 36, 32, 61]⟩] W fun e w' => e = .returned (.bool b) ∧ w' = W := among_is t ⟨#[123, 32, 125, 32, 40, 32, 41, 32, 91, 32, 93, 32, 59, 32, 44, 32, 43, 32, 45, 32, 42, 32, 47, 32, 37, 32, 33, 32, 62, 32, 60, 32, 124, 32, 63, 32, 58, 32, 126, 32, 36, 32, 61]⟩ (signsC.map (fun c => [c])) (by decide) b h W (by decide)
theorem disj1 : ∀ x ∈ wordsL, x ∉ builtL ∧ x ∉ bannL := by decide
theorem disj2 : ∀ x ∈ builtL, x ∉ bannL := by decide
theorem ro_tok {p k z : Nat} {M : Int} {T : ByteArray} {w w' : World} (hM : M = ((p + z : Nat) : Int)) (hb : Below w.heap.size w w') : RoPost p w (.tok k T.data.toList z) (.returned (.tuple #[.agg #[.int .i64 k, .string T, .int .i64 p], .int .i64 M])) w' := by
  subst hM
  refine ⟨?_, hb⟩
  show _ = Ending.returned (.tuple #[.agg #[.int .i64 k, .string ⟨T.data.toList.toArray⟩, .int .i64 p], .int .i64 ((p + z : Nat) : Int)])
  rw [← ba_of T _ rfl]
theorem ro_tokl {p k z : Nat} {M : Int} {t : List UInt8} {w w' : World} (hM : M = ((p + z : Nat) : Int)) (hb : Below w.heap.size w w') : RoPost p w (.tok k t z) (.returned (.tuple #[.agg #[.int .i64 k, .string ⟨t.toArray⟩, .int .i64 p], .int .i64 M])) w' := by
  subst hM
  exact ⟨rfl, hb⟩
theorem ro_bad0 {p : Nat} {k a : Int} {t : ByteArray} {w w' : World} (hb : Below w.heap.size w w') : RoPost p w (.bad 0) (.returned (.tuple #[.agg #[.int .i64 k, .string t, .int .i64 a], .int .i64 (-1)])) w' := ⟨⟨k, t, a, rfl⟩, hb⟩
theorem ro_badn {p b : Nat} {k a : Int} {t : ByteArray} {w w' : World} (hb : Below w.heap.size w w') : RoPost p w (.bad (b + 1)) (.returned (.tuple #[.agg #[.int .i64 k, .string t, .int .i64 a], .int .i64 (-2 - ((p + 1 + b : Nat) : Int))])) w' := ⟨⟨k, t, a, by rw [if_neg (Nat.succ_ne_zero b), show p + (b + 1) = p + 1 + b from by omega]⟩, hb⟩
/-- The result's cells. -/
def R3 (b : Nat) (w : World) : Prop := (w.cell? ⟨b, 0, none⟩ = some (.int .i64 0) ∧ w.cell? ⟨b, 1, none⟩ = some (.string ⟨#[]⟩) ∧ w.cell? ⟨b, 2, none⟩ = some (.int .i64 0)) ∧ w.frozen? ⟨b, 0, none⟩ = false ∧ w.frozen? ⟨b, 1, none⟩ = false ∧ w.frozen? ⟨b, 2, none⟩ = false
theorem R3.new (w : World) : R3 w.heap.size (w.alloc (.cells #[.int .i64 0, .string ⟨#[]⟩, .int .i64 0] 44)) := by
  have h := heap_alloc_new w (.cells #[.int .i64 0, .string ⟨#[]⟩, .int .i64 0] 44)
  exact ⟨⟨block_cell h, block_cell h, block_cell h⟩, block_frozen h, block_frozen h, block_frozen h⟩
theorem R3.below {b B : Nat} {w w' : World} (h : R3 b w) (hb : Below B w w') (hB : b < B) : R3 b w' := by
  have hc : ∀ o, w'.cell? ⟨b, o, none⟩ = w.cell? ⟨b, o, none⟩ := fun o => hb.cell (p := ⟨b, o, none⟩) hB
  have hf : ∀ o, w'.frozen? ⟨b, o, none⟩ = w.frozen? ⟨b, o, none⟩ := fun o => hb.frozen (p := ⟨b, o, none⟩) hB
  obtain ⟨⟨c0, c1, c2⟩, f0, f1, f2⟩ := h
  exact ⟨⟨(hc 0).trans c0, (hc 1).trans c1, (hc 2).trans c2⟩, (hf 0).trans f0, (hf 1).trans f1, (hf 2).trans f2⟩
theorem put3 {b : Nat} {w2 : World} {x y z : Value} (h : R3 b w2) : (((w2.setCell ⟨b, 0, none⟩ x).setCell ⟨b, 1, none⟩ y).setCell ⟨b, 2, none⟩ z).cell? ⟨b, 0, none⟩ = some x ∧ (((w2.setCell ⟨b, 0, none⟩ x).setCell ⟨b, 1, none⟩ y).setCell ⟨b, 2, none⟩ z).cell? ⟨b, 1, none⟩ = some y ∧ (((w2.setCell ⟨b, 0, none⟩ x).setCell ⟨b, 1, none⟩ y).setCell ⟨b, 2, none⟩ z).cell? ⟨b, 2, none⟩ = some z := by
  obtain ⟨⟨c0, c1, c2⟩, _, _, _⟩ := h
  refine ⟨?_, ?_, ?_⟩
  · rw [World.cell?_setCell_other _ _ _ _ (by simp), World.cell?_setCell_other _ _ _ _ (by simp), World.cell?_setCell_same _ _ _ c0]
  · rw [World.cell?_setCell_other _ _ _ _ (by simp)]
    exact World.cell?_setCell_same _ _ _ (by rw [World.cell?_setCell_other _ _ _ _ (by simp)]; exact c1)
  · exact World.cell?_setCell_same _ _ _ (by rw [World.cell?_setCell_other _ _ _ _ (by simp), World.cell?_setCell_other _ _ _ _ (by simp)]; exact c2)
theorem sets3 {w w2 : World} {a b c : Value} (h : Below w.heap.size w w2) : Below w.heap.size w (((w2.setCell ⟨w.heap.size, 0, none⟩ a).setCell ⟨w.heap.size, 1, none⟩ b).setCell ⟨w.heap.size, 2, none⟩ c) :=
  ((h.setCell (p := ⟨w.heap.size, 0, none⟩) (Nat.le_refl _) a).setCell (p := ⟨w.heap.size, 1, none⟩) (Nat.le_refl _) b).setCell (p := ⟨w.heap.size, 2, none⟩) (Nat.le_refl _) c
theorem new1 {w w2 : World} {o : Obj} (h : Below (w.alloc o).heap.size (w.alloc o) w2) : Below w.heap.size w w2 := ((Below.refl _ w).alloc (Nat.le_refl _) o).trans (h.mono (by simp))
set_option maxRecDepth 100000 in
set_option maxHeartbeats 4000000 in
theorem rone_nl (s : ByteArray) (p : Nat) (v : Value) (w : World) (hs : s.size ≤ 10000) (hp : p < s.size) (h1 : (s[p].toNat : Int) = 10) : Calls Try.prog 19 #[.string s, .int .i64 (p : Int), v] w (RoPost p w (.tok 1 [] 1)) := by
  go_enter Try.func19, Try.ntmps19
  go_wp2_with fail
  refine bodyPost_ret (v := .tuple #[.agg #[.int .i64 1, .string ⟨#[]⟩, .int .i64 (p : Int)], .int .i64 ((p : Int) + 1)]) ?_ rfl ?_
  · simp [results, Try.results19, go_sem]
  · exact ro_tokl (k := 1) (t := []) (z := 1) (by omega) (Below.alloc (Below.refl _ _) (Nat.le_refl _) _)
set_option maxRecDepth 100000 in
set_option maxHeartbeats 4000000 in
theorem rone_numAdot (s : ByteArray) (p : Nat) (v : Value) (w : World) (hs : s.size ≤ 10000) (hp : p < s.size) (D N E : Nat) (Tx : ByteArray) (_n10 : ((s[p].toNat : Int) == 10) = false) (CD : Hid (∀ W, Calls Try.prog 31 #[.int .u8 (s[p].toNat : Int)] W fun e w' => e = .returned (.bool true) ∧ w' = W)) (CD1 : Hid (∀ W, Calls Try.prog 32 #[.string s, .int .i64 (p : Int)] W fun e w' => e = .returned (.int .i64 ((D : Nat) : Int)) ∧ w' = W)) (hE : (p : Int) + (D : Int) = (E : Int)) (_hEs : E ≤ s.size) (hlt : E < s.size) (h46 : (s[E].toNat : Int) = 46) (P M : Nat) (CP1 : Hid (∀ W, Calls Try.prog 32 #[.string s, .int .i64 ((E : Int) + 1)] W fun e w' => e = .returned (.int .i64 ((P : Nat) : Int)) ∧ w' = W)) (hM : (E : Int) + (1 + (P : Int)) = (M : Int)) (hN : M = p + N) (hMs : M ≤ s.size) (hT : Hid (s.extract p M = Tx)) : Calls Try.prog 19 #[.string s, .int .i64 (p : Int), v] w (RoPost p w (.tok 2 Tx.data.toList N)) := by
  have HN := Lib.hid hN
  have w8 : (E : Int) < (s.size : Int) := by omega
  have w9 : (p : Int) ≤ (M : Int) := by omega
  have w7 : (M : Int) ≤ (s.size : Int) := by omega
  clear hN
  go_enter Try.func19, Try.ntmps19
  go_wp2_with fail
  refine (CD.out _).mono ?_
  rintro e w1 ⟨rfl, rfl⟩
  go_wp2_with fail
  refine (CD1.out _).mono ?_
  rintro e w1 ⟨rfl, rfl⟩
  go_wp2_with fail
  refine (CP1.out _).mono ?_
  rintro e w1 ⟨rfl, rfl⟩
  go_wp2_with fail
  rw [hT.out]
  refine bodyPost_ret (v := .tuple #[.agg #[.int .i64 2, .string Tx, .int .i64 (p : Int)], .int .i64 (M : Int)]) ?_ rfl ?_
  · simp [results, Try.results19, go_sem]
  · exact ro_tok (k := 2) (by rw [HN.out]) (Below.alloc (Below.refl _ _) (Nat.le_refl _) _)
set_option maxRecDepth 100000 in
set_option maxHeartbeats 4000000 in
theorem rone_numAno1 (s : ByteArray) (p : Nat) (v : Value) (w : World) (hs : s.size ≤ 10000) (hp : p < s.size) (D N E : Nat) (Tx : ByteArray) (_n10 : ((s[p].toNat : Int) == 10) = false) (CD : Hid (∀ W, Calls Try.prog 31 #[.int .u8 (s[p].toNat : Int)] W fun e w' => e = .returned (.bool true) ∧ w' = W)) (CD1 : Hid (∀ W, Calls Try.prog 32 #[.string s, .int .i64 (p : Int)] W fun e w' => e = .returned (.int .i64 ((D : Nat) : Int)) ∧ w' = W)) (hE : (p : Int) + (D : Int) = (E : Int)) (_hEs : E ≤ s.size) (hlt : ¬ (E : Int) < (s.size : Int)) (hN : E = p + N) (hT : Hid (s.extract p E = Tx)) : Calls Try.prog 19 #[.string s, .int .i64 (p : Int), v] w (RoPost p w (.tok 2 Tx.data.toList N)) := by
  have HN := Lib.hid hN
  have w9 : (p : Int) ≤ (E : Int) := by omega
  have w7 : (E : Int) ≤ (s.size : Int) := by omega
  clear hN
  go_enter Try.func19, Try.ntmps19
  go_wp2_with fail
  refine (CD.out _).mono ?_
  rintro e w1 ⟨rfl, rfl⟩
  go_wp2_with fail
  refine (CD1.out _).mono ?_
  rintro e w1 ⟨rfl, rfl⟩
  go_wp2_with fail
  rw [hT.out]
  refine bodyPost_ret (v := .tuple #[.agg #[.int .i64 2, .string Tx, .int .i64 (p : Int)], .int .i64 (E : Int)]) ?_ rfl ?_
  · simp [results, Try.results19, go_sem]
  · exact ro_tok (k := 2) (by rw [HN.out]) (Below.alloc (Below.refl _ _) (Nat.le_refl _) _)
set_option maxRecDepth 100000 in
set_option maxHeartbeats 4000000 in
theorem rone_numAno2 (s : ByteArray) (p : Nat) (v : Value) (w : World) (hs : s.size ≤ 10000) (hp : p < s.size) (D N E : Nat) (Tx : ByteArray) (_n10 : ((s[p].toNat : Int) == 10) = false) (CD : Hid (∀ W, Calls Try.prog 31 #[.int .u8 (s[p].toNat : Int)] W fun e w' => e = .returned (.bool true) ∧ w' = W)) (CD1 : Hid (∀ W, Calls Try.prog 32 #[.string s, .int .i64 (p : Int)] W fun e w' => e = .returned (.int .i64 ((D : Nat) : Int)) ∧ w' = W)) (hE : (p : Int) + (D : Int) = (E : Int)) (_hEs : E ≤ s.size) (hlt : E < s.size) (h46 : ((s[E].toNat : Int) == 46) = false) (hN : E = p + N) (hT : Hid (s.extract p E = Tx)) : Calls Try.prog 19 #[.string s, .int .i64 (p : Int), v] w (RoPost p w (.tok 2 Tx.data.toList N)) := by
  have HN := Lib.hid hN
  have w9 : (p : Int) ≤ (E : Int) := by omega
  have w7 : (E : Int) ≤ (s.size : Int) := by omega
  have w8 : (E : Int) < (s.size : Int) := by omega
  clear hN
  go_enter Try.func19, Try.ntmps19
  go_wp2_with fail
  refine (CD.out _).mono ?_
  rintro e w1 ⟨rfl, rfl⟩
  go_wp2_with fail
  refine (CD1.out _).mono ?_
  rintro e w1 ⟨rfl, rfl⟩
  go_wp2_with fail
  rw [hT.out]
  refine bodyPost_ret (v := .tuple #[.agg #[.int .i64 2, .string Tx, .int .i64 (p : Int)], .int .i64 (E : Int)]) ?_ rfl ?_
  · simp [results, Try.results19, go_sem]
  · exact ro_tok (k := 2) (by rw [HN.out]) (Below.alloc (Below.refl _ _) (Nat.le_refl _) _)
set_option maxRecDepth 100000 in
set_option maxHeartbeats 4000000 in
theorem rone_numBdot (s : ByteArray) (p : Nat) (v : Value) (w : World) (hs : s.size ≤ 10000) (hp : p < s.size) (P0 : Int) (D N E : Nat) (Tx : ByteArray) (_n10 : ((s[p].toNat : Int) == 10) = false) (CD : Hid (∀ W, Calls Try.prog 31 #[.int .u8 46] W fun e w' => e = .returned (.bool false) ∧ w' = W)) (hc : (s[p].toNat : Int) = 46) (CP : Hid (∀ W, Calls Try.prog 32 #[.string s, .int .i64 ((p : Int) + 1)] W fun e w' => e = .returned (.int .i64 (P0 : Int)) ∧ w' = W)) (hP0 : (0 : Int) < P0) (CD1 : Hid (∀ W, Calls Try.prog 32 #[.string s, .int .i64 (p : Int)] W fun e w' => e = .returned (.int .i64 ((D : Nat) : Int)) ∧ w' = W)) (hE : (p : Int) + (D : Int) = (E : Int)) (_hEs : E ≤ s.size) (hlt : E < s.size) (h46 : (s[E].toNat : Int) = 46) (P M : Nat) (CP1 : Hid (∀ W, Calls Try.prog 32 #[.string s, .int .i64 ((E : Int) + 1)] W fun e w' => e = .returned (.int .i64 ((P : Nat) : Int)) ∧ w' = W)) (hM : (E : Int) + (1 + (P : Int)) = (M : Int)) (hN : M = p + N) (hMs : M ≤ s.size) (hT : Hid (s.extract p M = Tx)) : Calls Try.prog 19 #[.string s, .int .i64 (p : Int), v] w (RoPost p w (.tok 2 Tx.data.toList N)) := by
  have HN := Lib.hid hN
  have w8 : (E : Int) < (s.size : Int) := by omega
  have w9 : (p : Int) ≤ (M : Int) := by omega
  have w7 : (M : Int) ≤ (s.size : Int) := by omega
  clear hN
  go_enter Try.func19, Try.ntmps19
  go_wp2_with fail
  refine (CD.out _).mono ?_
  rintro e w1 ⟨rfl, rfl⟩
  go_wp2_with fail
  refine (CP.out _).mono ?_
  rintro e w1 ⟨rfl, rfl⟩
  go_wp2_with fail
  refine (CD1.out _).mono ?_
  rintro e w1 ⟨rfl, rfl⟩
  go_wp2_with fail
  refine (CP1.out _).mono ?_
  rintro e w1 ⟨rfl, rfl⟩
  go_wp2_with fail
  rw [hT.out]
  refine bodyPost_ret (v := .tuple #[.agg #[.int .i64 2, .string Tx, .int .i64 (p : Int)], .int .i64 (M : Int)]) ?_ rfl ?_
  · simp [results, Try.results19, go_sem]
  · exact ro_tok (k := 2) (by rw [HN.out]) (Below.alloc (Below.refl _ _) (Nat.le_refl _) _)
set_option maxRecDepth 100000 in
set_option maxHeartbeats 4000000 in
theorem rone_str (s : ByteArray) (p : Nat) (v : Value) (w : World) (_hs : s.size ≤ 10000) (hp : p < s.size) (X : Qu) (_n10 : ((s[p].toNat : Int) == 10) = false) (CD : Hid (∀ W, Calls Try.prog 31 #[.int .u8 34] W fun e w' => e = .returned (.bool false) ∧ w' = W)) (_n46 : ((s[p].toNat : Int) == 46) = false) (CL : Hid (∀ W, Calls Try.prog 33 #[.int .u8 34] W fun e w' => e = .returned (.bool false) ∧ w' = W)) (h1 : (s[p].toNat : Int) = 34) (QS : Hid (∀ W, Calls Try.prog 35 #[.string s, .int .i64 (p : Int), .int .u8 34, .bool false] W (RqPost p W X))) : Calls Try.prog 19 #[.string s, .int .i64 (p : Int), v] w (RoPost p w (St.ofQ 3 X)) := by
  go_enter Try.func19, Try.ntmps19
  go_wp2_with fail
  refine (CD.out _).mono ?_
  rintro e w1 ⟨rfl, rfl⟩
  go_wp2_with fail
  refine (CL.out _).mono ?_
  rintro e w1 ⟨rfl, rfl⟩
  go_wp2_with fail
  cases X with
  | done t z =>
    refine (QS.out _).mono ?_
    rintro e w2 ⟨h2, hb2⟩
    obtain rfl : e = .returned (.tuple #[.string ⟨t.toArray⟩, .int .i64 ((p + 1 + z : Nat) : Int)]) := h2
    have HB2 := Lib.hid (new1 hb2)
    have hc0 := (R3.new w).below hb2 (by simp)
    have HR2 := Lib.hid hc0
    clear hb2
    obtain ⟨M, hM⟩ : ∃ M : Nat, p + 1 + z = M := ⟨_, rfl⟩
    rw [hM]
    have HM := Lib.hid hM
    clear hM
    obtain ⟨⟨q0, q1, q2⟩, f0, f1, f2⟩ := hc0
    go_wp2_with fail
    obtain ⟨z0, z1, z2⟩ := put3 (x := .int .i64 3) (y := .string ⟨t.toArray⟩) (z := .int .i64 (p : Int)) HR2.out
    have ZB := Lib.hid (sets3 (a := .int .i64 3) (b := .string ⟨t.toArray⟩) (c := .int .i64 (p : Int)) HB2.out)
    generalize (((w2.setCell ⟨w.heap.size, 0, none⟩ (.int .i64 3)).setCell ⟨w.heap.size, 1, none⟩ (.string ⟨t.toArray⟩)).setCell ⟨w.heap.size, 2, none⟩ (.int .i64 (p : Int))) = W9 at *
    refine bodyPost_ret (v := .tuple #[.agg #[.int .i64 3, .string ⟨t.toArray⟩, .int .i64 (p : Int)], .int .i64 (M : Int)]) ?_ rfl ?_
    · simp [results, Try.results19, go_sem, z0, z1, z2]
    · exact ro_tokl (k := 3) (by rw [← HM.out]; omega) ZB.out
  | opened =>
    refine (QS.out _).mono ?_
    rintro e w2 ⟨h2, hb2⟩
    obtain rfl : e = .returned (.tuple #[.string ⟨#[]⟩, .int .i64 (-1)]) := h2
    have HB2 := Lib.hid (new1 hb2)
    have hc0 := (R3.new w).below hb2 (by simp)
    have HR2 := Lib.hid hc0
    clear hb2
    obtain ⟨⟨q0, q1, q2⟩, f0, f1, f2⟩ := hc0
    go_wp2_with fail
    obtain ⟨z0, z1, z2⟩ := put3 (x := .int .i64 3) (y := .string ⟨#[]⟩) (z := .int .i64 (p : Int)) HR2.out
    have ZB := Lib.hid (sets3 (a := .int .i64 3) (b := .string ⟨#[]⟩) (c := .int .i64 (p : Int)) HB2.out)
    generalize (((w2.setCell ⟨w.heap.size, 0, none⟩ (.int .i64 3)).setCell ⟨w.heap.size, 1, none⟩ (.string ⟨#[]⟩)).setCell ⟨w.heap.size, 2, none⟩ (.int .i64 (p : Int))) = W9 at *
    refine bodyPost_ret (v := .tuple #[.agg #[.int .i64 3, .string ⟨#[]⟩, .int .i64 (p : Int)], .int .i64 (-1)]) ?_ rfl ?_
    · simp [results, Try.results19, go_sem, z0, z1, z2]
    · exact ro_bad0 ZB.out
  | wrong b =>
    refine (QS.out _).mono ?_
    rintro e w2 ⟨h2, hb2⟩
    obtain rfl : e = .returned (.tuple #[.string ⟨#[]⟩, .int .i64 (-2 - ((p + 1 + b : Nat) : Int))]) := h2
    have HB2 := Lib.hid (new1 hb2)
    have hc0 := (R3.new w).below hb2 (by simp)
    have HR2 := Lib.hid hc0
    clear hb2
    obtain ⟨M, hM⟩ : ∃ M : Int, -2 - ((p + 1 + b : Nat) : Int) = M := ⟨_, rfl⟩
    rw [hM]
    have HM := Lib.hid hM
    clear hM
    obtain ⟨⟨q0, q1, q2⟩, f0, f1, f2⟩ := hc0
    go_wp2_with fail
    obtain ⟨z0, z1, z2⟩ := put3 (x := .int .i64 3) (y := .string ⟨#[]⟩) (z := .int .i64 (p : Int)) HR2.out
    have ZB := Lib.hid (sets3 (a := .int .i64 3) (b := .string ⟨#[]⟩) (c := .int .i64 (p : Int)) HB2.out)
    generalize (((w2.setCell ⟨w.heap.size, 0, none⟩ (.int .i64 3)).setCell ⟨w.heap.size, 1, none⟩ (.string ⟨#[]⟩)).setCell ⟨w.heap.size, 2, none⟩ (.int .i64 (p : Int))) = W9 at *
    refine bodyPost_ret (v := .tuple #[.agg #[.int .i64 3, .string ⟨#[]⟩, .int .i64 (p : Int)], .int .i64 M]) ?_ rfl ?_
    · simp [results, Try.results19, go_sem, z0, z1, z2]
    · exact (by rw [← HM.out]; exact ro_badn ZB.out)
set_option maxRecDepth 100000 in
set_option maxHeartbeats 4000000 in
theorem rone_re (s : ByteArray) (p : Nat) (v : Value) (w : World) (_hs : s.size ≤ 10000) (hp : p < s.size) (X : Qu) (_n10 : ((s[p].toNat : Int) == 10) = false) (CD : Hid (∀ W, Calls Try.prog 31 #[.int .u8 47] W fun e w' => e = .returned (.bool false) ∧ w' = W)) (_n46 : ((s[p].toNat : Int) == 46) = false) (CL : Hid (∀ W, Calls Try.prog 33 #[.int .u8 47] W fun e w' => e = .returned (.bool false) ∧ w' = W)) (h1 : (s[p].toNat : Int) = 47) (CPat : Hid (∀ W, Below w.heap.size w W → Calls Try.prog 36 #[v] W fun e w' => e = .returned (.bool true) ∧ Below W.heap.size W w')) (QS : Hid (∀ W, Calls Try.prog 35 #[.string s, .int .i64 (p : Int), .int .u8 47, .bool true] W (RqPost p W X))) : Calls Try.prog 19 #[.string s, .int .i64 (p : Int), v] w (RoPost p w (St.ofQ 4 X)) := by
  go_enter Try.func19, Try.ntmps19
  go_wp2_with fail
  refine (CD.out _).mono ?_
  rintro e w1 ⟨rfl, rfl⟩
  go_wp2_with fail
  refine (CL.out _).mono ?_
  rintro e w1 ⟨rfl, rfl⟩
  go_wp2_with fail
  refine (CPat.out _ ((Below.refl _ w).alloc (Nat.le_refl _) _)).mono ?_
  rintro e w7 ⟨rfl, hb7⟩
  have R7 := Lib.hid ((R3.new w).below hb7 (by simp))
  have B7 := Lib.hid (new1 hb7)
  have L7 : w.heap.size < w7.heap.size := by have := hb7.size; simp at this; omega
  clear hb7
  go_wp2_with fail
  cases X with
  | done t z =>
    refine (QS.out _).mono ?_
    rintro e w2 ⟨h2, hb2⟩
    obtain rfl : e = .returned (.tuple #[.string ⟨t.toArray⟩, .int .i64 ((p + 1 + z : Nat) : Int)]) := h2
    have HB2 := Lib.hid (B7.out.trans (hb2.mono B7.out.size))
    have hc0 := R7.out.below hb2 L7
    have HR2 := Lib.hid hc0
    clear hb2
    obtain ⟨M, hM⟩ : ∃ M : Nat, p + 1 + z = M := ⟨_, rfl⟩
    rw [hM]
    have HM := Lib.hid hM
    clear hM
    obtain ⟨⟨q0, q1, q2⟩, f0, f1, f2⟩ := hc0
    go_wp2_with fail
    obtain ⟨z0, z1, z2⟩ := put3 (x := .int .i64 4) (y := .string ⟨t.toArray⟩) (z := .int .i64 (p : Int)) HR2.out
    have ZB := Lib.hid (sets3 (a := .int .i64 4) (b := .string ⟨t.toArray⟩) (c := .int .i64 (p : Int)) HB2.out)
    generalize (((w2.setCell ⟨w.heap.size, 0, none⟩ (.int .i64 4)).setCell ⟨w.heap.size, 1, none⟩ (.string ⟨t.toArray⟩)).setCell ⟨w.heap.size, 2, none⟩ (.int .i64 (p : Int))) = W9 at *
    refine bodyPost_ret (v := .tuple #[.agg #[.int .i64 4, .string ⟨t.toArray⟩, .int .i64 (p : Int)], .int .i64 (M : Int)]) ?_ rfl ?_
    · simp [results, Try.results19, go_sem, z0, z1, z2]
    · exact ro_tokl (k := 4) (by rw [← HM.out]; omega) ZB.out
  | opened =>
    refine (QS.out _).mono ?_
    rintro e w2 ⟨h2, hb2⟩
    obtain rfl : e = .returned (.tuple #[.string ⟨#[]⟩, .int .i64 (-1)]) := h2
    have HB2 := Lib.hid (B7.out.trans (hb2.mono B7.out.size))
    have hc0 := R7.out.below hb2 L7
    have HR2 := Lib.hid hc0
    clear hb2
    obtain ⟨⟨q0, q1, q2⟩, f0, f1, f2⟩ := hc0
    go_wp2_with fail
    obtain ⟨z0, z1, z2⟩ := put3 (x := .int .i64 4) (y := .string ⟨#[]⟩) (z := .int .i64 (p : Int)) HR2.out
    have ZB := Lib.hid (sets3 (a := .int .i64 4) (b := .string ⟨#[]⟩) (c := .int .i64 (p : Int)) HB2.out)
    generalize (((w2.setCell ⟨w.heap.size, 0, none⟩ (.int .i64 4)).setCell ⟨w.heap.size, 1, none⟩ (.string ⟨#[]⟩)).setCell ⟨w.heap.size, 2, none⟩ (.int .i64 (p : Int))) = W9 at *
    refine bodyPost_ret (v := .tuple #[.agg #[.int .i64 4, .string ⟨#[]⟩, .int .i64 (p : Int)], .int .i64 (-1)]) ?_ rfl ?_
    · simp [results, Try.results19, go_sem, z0, z1, z2]
    · exact ro_bad0 ZB.out
  | wrong b =>
    refine (QS.out _).mono ?_
    rintro e w2 ⟨h2, hb2⟩
    obtain rfl : e = .returned (.tuple #[.string ⟨#[]⟩, .int .i64 (-2 - ((p + 1 + b : Nat) : Int))]) := h2
    have HB2 := Lib.hid (B7.out.trans (hb2.mono B7.out.size))
    have hc0 := R7.out.below hb2 L7
    have HR2 := Lib.hid hc0
    clear hb2
    obtain ⟨M, hM⟩ : ∃ M : Int, -2 - ((p + 1 + b : Nat) : Int) = M := ⟨_, rfl⟩
    rw [hM]
    have HM := Lib.hid hM
    clear hM
    obtain ⟨⟨q0, q1, q2⟩, f0, f1, f2⟩ := hc0
    go_wp2_with fail
    obtain ⟨z0, z1, z2⟩ := put3 (x := .int .i64 4) (y := .string ⟨#[]⟩) (z := .int .i64 (p : Int)) HR2.out
    have ZB := Lib.hid (sets3 (a := .int .i64 4) (b := .string ⟨#[]⟩) (c := .int .i64 (p : Int)) HB2.out)
    generalize (((w2.setCell ⟨w.heap.size, 0, none⟩ (.int .i64 4)).setCell ⟨w.heap.size, 1, none⟩ (.string ⟨#[]⟩)).setCell ⟨w.heap.size, 2, none⟩ (.int .i64 (p : Int))) = W9 at *
    refine bodyPost_ret (v := .tuple #[.agg #[.int .i64 4, .string ⟨#[]⟩, .int .i64 (p : Int)], .int .i64 M]) ?_ rfl ?_
    · simp [results, Try.results19, go_sem, z0, z1, z2]
    · exact (by rw [← HM.out]; exact ro_badn ZB.out)
set_option maxRecDepth 100000 in
set_option maxHeartbeats 4000000 in
theorem rone_sg_o_lt_two (s : ByteArray) (p : Nat) (v : Value) (w : World) (hs : s.size ≤ 10000) (hp : p < s.size) (_n10 : ((s[p].toNat : Int) == 10) = false) (CD : Hid (∀ W, Calls Try.prog 31 #[.int .u8 (s[p].toNat : Int)] W fun e w' => e = .returned (.bool false) ∧ w' = W)) (n46 : ((s[p].toNat : Int) == 46) = false) (CL : Hid (∀ W, Calls Try.prog 33 #[.int .u8 (s[p].toNat : Int)] W fun e w' => e = .returned (.bool false) ∧ w' = W)) (n34 : ((s[p].toNat : Int) == 34) = false) (n47 : ((s[p].toNat : Int) == 47) = false) (hlt : p + 1 < s.size) (C2 : Hid (∀ W, Calls Try.prog 34 #[.string (s.extract p (p + 2)), .string ⟨#[43, 61, 32, 45, 61, 32, 42, 61, 32, 47, 61, 32, 37, 61, 32, 61, 61, 32, 60, 61, 32, 62, 61, 32, 33, 61, 32, 43, 43, 32, 45, 45, 32, 38, 38, 32, 124, 124, 32, 62, 62, 32, 33, 126]⟩] W fun e w' => e = .returned (.bool true) ∧ w' = W))  : Calls Try.prog 19 #[.string s, .int .i64 (p : Int), v] w (RoPost p w (.tok 8 (s.extract p (p + 2)).data.toList 2)) := by
  have e1 : (p : Int) + 1 ≤ (s.size : Int) := by omega
  have e2 : (p : Int) + 1 < (s.size : Int) := by omega
  have e3 : (p : Int) + 2 ≤ (s.size : Int) := by omega
  go_enter Try.func19, Try.ntmps19
  go_wp2_with fail
  refine (CD.out _).mono ?_
  rintro e w1 ⟨rfl, rfl⟩
  go_wp2_with fail
  refine (CL.out _).mono ?_
  rintro e w1 ⟨rfl, rfl⟩
  go_wp2_with fail
  refine (C2.out _).mono ?_
  rintro e w1 ⟨rfl, rfl⟩
  go_wp2_with fail
  refine bodyPost_ret (v := .tuple #[.agg #[.int .i64 8, .string (s.extract p (p + 2)), .int .i64 (p : Int)], .int .i64 ((p : Int) + 2)]) ?_ rfl ?_
  · simp [results, Try.results19, go_sem]
  · exact ro_tok (k := 8) (z := 2) (by omega) (Below.alloc (Below.refl _ _) (Nat.le_refl _) _)
set_option maxRecDepth 100000 in
set_option maxHeartbeats 4000000 in
theorem rone_sg_o_lt_one (s : ByteArray) (p : Nat) (v : Value) (w : World) (hs : s.size ≤ 10000) (hp : p < s.size) (_n10 : ((s[p].toNat : Int) == 10) = false) (CD : Hid (∀ W, Calls Try.prog 31 #[.int .u8 (s[p].toNat : Int)] W fun e w' => e = .returned (.bool false) ∧ w' = W)) (n46 : ((s[p].toNat : Int) == 46) = false) (CL : Hid (∀ W, Calls Try.prog 33 #[.int .u8 (s[p].toNat : Int)] W fun e w' => e = .returned (.bool false) ∧ w' = W)) (n34 : ((s[p].toNat : Int) == 34) = false) (n47 : ((s[p].toNat : Int) == 47) = false) (hlt : p + 1 < s.size) (C2 : Hid (∀ W, Calls Try.prog 34 #[.string (s.extract p (p + 2)), .string ⟨#[43, 61, 32, 45, 61, 32, 42, 61, 32, 47, 61, 32, 37, 61, 32, 61, 61, 32, 60, 61, 32, 62, 61, 32, 33, 61, 32, 43, 43, 32, 45, 45, 32, 38, 38, 32, 124, 124, 32, 62, 62, 32, 33, 126]⟩] W fun e w' => e = .returned (.bool false) ∧ w' = W)) (C1 : Hid (∀ W, Calls Try.prog 34 #[.string (s.extract p (p + 1)), .string ⟨#[123, 32, 125, 32, 40, 32, 41, 32, 91, 32, 93, 32, 59, 32, 44, 32, 43, 32, 45, 32, 42, 32, 47, 32, 37, 32, 33, 32, 62, 32, 60, 32, 124, 32, 63, 32, 58, 32, 126, 32, 36, 32, 61]⟩] W fun e w' => e = .returned (.bool true) ∧ w' = W))  : Calls Try.prog 19 #[.string s, .int .i64 (p : Int), v] w (RoPost p w (.tok 8 (s.extract p (p + 1)).data.toList 1)) := by
  have e1 : (p : Int) + 1 ≤ (s.size : Int) := by omega
  have e2 : (p : Int) + 1 < (s.size : Int) := by omega
  have e3 : (p : Int) + 2 ≤ (s.size : Int) := by omega
  go_enter Try.func19, Try.ntmps19
  go_wp2_with fail
  refine (CD.out _).mono ?_
  rintro e w1 ⟨rfl, rfl⟩
  go_wp2_with fail
  refine (CL.out _).mono ?_
  rintro e w1 ⟨rfl, rfl⟩
  go_wp2_with fail
  refine (C2.out _).mono ?_
  rintro e w1 ⟨rfl, rfl⟩
  go_wp2_with fail
  refine (C1.out _).mono ?_
  rintro e w1 ⟨rfl, rfl⟩
  go_wp2_with fail
  refine bodyPost_ret (v := .tuple #[.agg #[.int .i64 8, .string (s.extract p (p + 1)), .int .i64 (p : Int)], .int .i64 ((p : Int) + 1)]) ?_ rfl ?_
  · simp [results, Try.results19, go_sem]
  · exact ro_tok (k := 8) (z := 1) (by omega) (Below.alloc (Below.refl _ _) (Nat.le_refl _) _)
set_option maxRecDepth 100000 in
set_option maxHeartbeats 4000000 in
theorem rone_sg_o_lt_none (s : ByteArray) (p : Nat) (v : Value) (w : World) (hs : s.size ≤ 10000) (hp : p < s.size) (_n10 : ((s[p].toNat : Int) == 10) = false) (CD : Hid (∀ W, Calls Try.prog 31 #[.int .u8 (s[p].toNat : Int)] W fun e w' => e = .returned (.bool false) ∧ w' = W)) (n46 : ((s[p].toNat : Int) == 46) = false) (CL : Hid (∀ W, Calls Try.prog 33 #[.int .u8 (s[p].toNat : Int)] W fun e w' => e = .returned (.bool false) ∧ w' = W)) (n34 : ((s[p].toNat : Int) == 34) = false) (n47 : ((s[p].toNat : Int) == 47) = false) (hlt : p + 1 < s.size) (C2 : Hid (∀ W, Calls Try.prog 34 #[.string (s.extract p (p + 2)), .string ⟨#[43, 61, 32, 45, 61, 32, 42, 61, 32, 47, 61, 32, 37, 61, 32, 61, 61, 32, 60, 61, 32, 62, 61, 32, 33, 61, 32, 43, 43, 32, 45, 45, 32, 38, 38, 32, 124, 124, 32, 62, 62, 32, 33, 126]⟩] W fun e w' => e = .returned (.bool false) ∧ w' = W)) (C1 : Hid (∀ W, Calls Try.prog 34 #[.string (s.extract p (p + 1)), .string ⟨#[123, 32, 125, 32, 40, 32, 41, 32, 91, 32, 93, 32, 59, 32, 44, 32, 43, 32, 45, 32, 42, 32, 47, 32, 37, 32, 33, 32, 62, 32, 60, 32, 124, 32, 63, 32, 58, 32, 126, 32, 36, 32, 61]⟩] W fun e w' => e = .returned (.bool false) ∧ w' = W))  : Calls Try.prog 19 #[.string s, .int .i64 (p : Int), v] w (RoPost p w (.bad 0)) := by
  have e1 : (p : Int) + 1 ≤ (s.size : Int) := by omega
  have e2 : (p : Int) + 1 < (s.size : Int) := by omega
  have e3 : (p : Int) + 2 ≤ (s.size : Int) := by omega
  go_enter Try.func19, Try.ntmps19
  go_wp2_with fail
  refine (CD.out _).mono ?_
  rintro e w1 ⟨rfl, rfl⟩
  go_wp2_with fail
  refine (CL.out _).mono ?_
  rintro e w1 ⟨rfl, rfl⟩
  go_wp2_with fail
  refine (C2.out _).mono ?_
  rintro e w1 ⟨rfl, rfl⟩
  go_wp2_with fail
  refine (C1.out _).mono ?_
  rintro e w1 ⟨rfl, rfl⟩
  go_wp2_with fail
  refine bodyPost_ret (v := .tuple #[.agg #[.int .i64 0, .string ⟨#[]⟩, .int .i64 0], .int .i64 (-1)]) ?_ rfl ?_
  · simp [results, Try.results19, go_sem]
  · exact ro_bad0 (Below.alloc (Below.refl _ _) (Nat.le_refl _) _)
set_option maxRecDepth 100000 in
set_option maxHeartbeats 4000000 in
theorem rone_sg_o_ge_one (s : ByteArray) (p : Nat) (v : Value) (w : World) (hs : s.size ≤ 10000) (hp : p < s.size) (_n10 : ((s[p].toNat : Int) == 10) = false) (CD : Hid (∀ W, Calls Try.prog 31 #[.int .u8 (s[p].toNat : Int)] W fun e w' => e = .returned (.bool false) ∧ w' = W)) (n46 : ((s[p].toNat : Int) == 46) = false) (CL : Hid (∀ W, Calls Try.prog 33 #[.int .u8 (s[p].toNat : Int)] W fun e w' => e = .returned (.bool false) ∧ w' = W)) (n34 : ((s[p].toNat : Int) == 34) = false) (n47 : ((s[p].toNat : Int) == 47) = false) (hlt : ¬ p + 1 < s.size) (C1 : Hid (∀ W, Calls Try.prog 34 #[.string (s.extract p (p + 1)), .string ⟨#[123, 32, 125, 32, 40, 32, 41, 32, 91, 32, 93, 32, 59, 32, 44, 32, 43, 32, 45, 32, 42, 32, 47, 32, 37, 32, 33, 32, 62, 32, 60, 32, 124, 32, 63, 32, 58, 32, 126, 32, 36, 32, 61]⟩] W fun e w' => e = .returned (.bool true) ∧ w' = W))  : Calls Try.prog 19 #[.string s, .int .i64 (p : Int), v] w (RoPost p w (.tok 8 (s.extract p (p + 1)).data.toList 1)) := by
  have e1 : (p : Int) + 1 ≤ (s.size : Int) := by omega
  have e2 : ¬ (p : Int) + 1 < (s.size : Int) := by omega
  go_enter Try.func19, Try.ntmps19
  go_wp2_with fail
  refine (CD.out _).mono ?_
  rintro e w1 ⟨rfl, rfl⟩
  go_wp2_with fail
  refine (CL.out _).mono ?_
  rintro e w1 ⟨rfl, rfl⟩
  go_wp2_with fail
  refine (C1.out _).mono ?_
  rintro e w1 ⟨rfl, rfl⟩
  go_wp2_with fail
  refine bodyPost_ret (v := .tuple #[.agg #[.int .i64 8, .string (s.extract p (p + 1)), .int .i64 (p : Int)], .int .i64 ((p : Int) + 1)]) ?_ rfl ?_
  · simp [results, Try.results19, go_sem]
  · exact ro_tok (k := 8) (z := 1) (by omega) (Below.alloc (Below.refl _ _) (Nat.le_refl _) _)
set_option maxRecDepth 100000 in
set_option maxHeartbeats 4000000 in
theorem rone_sg_o_ge_none (s : ByteArray) (p : Nat) (v : Value) (w : World) (hs : s.size ≤ 10000) (hp : p < s.size) (_n10 : ((s[p].toNat : Int) == 10) = false) (CD : Hid (∀ W, Calls Try.prog 31 #[.int .u8 (s[p].toNat : Int)] W fun e w' => e = .returned (.bool false) ∧ w' = W)) (n46 : ((s[p].toNat : Int) == 46) = false) (CL : Hid (∀ W, Calls Try.prog 33 #[.int .u8 (s[p].toNat : Int)] W fun e w' => e = .returned (.bool false) ∧ w' = W)) (n34 : ((s[p].toNat : Int) == 34) = false) (n47 : ((s[p].toNat : Int) == 47) = false) (hlt : ¬ p + 1 < s.size) (C1 : Hid (∀ W, Calls Try.prog 34 #[.string (s.extract p (p + 1)), .string ⟨#[123, 32, 125, 32, 40, 32, 41, 32, 91, 32, 93, 32, 59, 32, 44, 32, 43, 32, 45, 32, 42, 32, 47, 32, 37, 32, 33, 32, 62, 32, 60, 32, 124, 32, 63, 32, 58, 32, 126, 32, 36, 32, 61]⟩] W fun e w' => e = .returned (.bool false) ∧ w' = W))  : Calls Try.prog 19 #[.string s, .int .i64 (p : Int), v] w (RoPost p w (.bad 0)) := by
  have e1 : (p : Int) + 1 ≤ (s.size : Int) := by omega
  have e2 : ¬ (p : Int) + 1 < (s.size : Int) := by omega
  go_enter Try.func19, Try.ntmps19
  go_wp2_with fail
  refine (CD.out _).mono ?_
  rintro e w1 ⟨rfl, rfl⟩
  go_wp2_with fail
  refine (CL.out _).mono ?_
  rintro e w1 ⟨rfl, rfl⟩
  go_wp2_with fail
  refine (C1.out _).mono ?_
  rintro e w1 ⟨rfl, rfl⟩
  go_wp2_with fail
  refine bodyPost_ret (v := .tuple #[.agg #[.int .i64 0, .string ⟨#[]⟩, .int .i64 0], .int .i64 (-1)]) ?_ rfl ?_
  · simp [results, Try.results19, go_sem]
  · exact ro_bad0 (Below.alloc (Below.refl _ _) (Nat.le_refl _) _)
set_option maxRecDepth 100000 in
set_option maxHeartbeats 4000000 in
theorem rone_sg_d_lt_two (s : ByteArray) (p : Nat) (v : Value) (w : World) (hs : s.size ≤ 10000) (hp : p < s.size) (_n10 : ((s[p].toNat : Int) == 10) = false) (CD : Hid (∀ W, Calls Try.prog 31 #[.int .u8 47] W fun e w' => e = .returned (.bool false) ∧ w' = W)) (_n46 : ((s[p].toNat : Int) == 46) = false) (CL : Hid (∀ W, Calls Try.prog 33 #[.int .u8 47] W fun e w' => e = .returned (.bool false) ∧ w' = W)) (h47 : (s[p].toNat : Int) = 47) (CPat : Hid (∀ W, Below w.heap.size w W → Calls Try.prog 36 #[v] W fun e w' => e = .returned (.bool false) ∧ Below W.heap.size W w')) (hlt : p + 1 < s.size) (C2 : Hid (∀ W, Calls Try.prog 34 #[.string (s.extract p (p + 2)), .string ⟨#[43, 61, 32, 45, 61, 32, 42, 61, 32, 47, 61, 32, 37, 61, 32, 61, 61, 32, 60, 61, 32, 62, 61, 32, 33, 61, 32, 43, 43, 32, 45, 45, 32, 38, 38, 32, 124, 124, 32, 62, 62, 32, 33, 126]⟩] W fun e w' => e = .returned (.bool true) ∧ w' = W))  : Calls Try.prog 19 #[.string s, .int .i64 (p : Int), v] w (RoPost p w (.tok 8 (s.extract p (p + 2)).data.toList 2)) := by
  have e1 : (p : Int) + 1 ≤ (s.size : Int) := by omega
  have e2 : (p : Int) + 1 < (s.size : Int) := by omega
  have e3 : (p : Int) + 2 ≤ (s.size : Int) := by omega
  go_enter Try.func19, Try.ntmps19
  go_wp2_with fail
  refine (CD.out _).mono ?_
  rintro e w1 ⟨rfl, rfl⟩
  go_wp2_with fail
  refine (CL.out _).mono ?_
  rintro e w1 ⟨rfl, rfl⟩
  go_wp2_with fail
  refine (CPat.out _ ((Below.refl _ w).alloc (Nat.le_refl _) _)).mono ?_
  rintro e w7 ⟨rfl, hb7⟩
  have R7 := Lib.hid ((R3.new w).below hb7 (by simp))
  have B7 := Lib.hid (new1 hb7)
  obtain ⟨⟨q0, q1, q2⟩, f0, f1, f2⟩ := R7.out
  have L7 : w.heap.size < w7.heap.size := by have := hb7.size; simp at this; omega
  clear hb7
  go_wp2_with fail
  refine (C2.out _).mono ?_
  rintro e w1 ⟨rfl, rfl⟩
  go_wp2_with fail
  obtain ⟨z0, z1, z2⟩ := put3 (x := .int .i64 8) (y := .string (s.extract p (p + 2))) (z := .int .i64 (p : Int)) R7.out
  have ZB := Lib.hid (sets3 (a := .int .i64 8) (b := .string (s.extract p (p + 2))) (c := .int .i64 (p : Int)) B7.out)
  generalize (((w1.setCell ⟨w.heap.size, 0, none⟩ (.int .i64 8)).setCell ⟨w.heap.size, 1, none⟩ (.string (s.extract p (p + 2)))).setCell ⟨w.heap.size, 2, none⟩ (.int .i64 (p : Int))) = W9 at *
  refine bodyPost_ret (v := .tuple #[.agg #[.int .i64 8, .string (s.extract p (p + 2)), .int .i64 (p : Int)], .int .i64 ((p : Int) + 2)]) ?_ rfl ?_
  · simp [results, Try.results19, go_sem, z0, z1, z2]
  · exact ro_tok (k := 8) (z := 2) (by omega) (ZB.out)
set_option maxRecDepth 100000 in
set_option maxHeartbeats 4000000 in
theorem rone_sg_d_lt_one (s : ByteArray) (p : Nat) (v : Value) (w : World) (hs : s.size ≤ 10000) (hp : p < s.size) (_n10 : ((s[p].toNat : Int) == 10) = false) (CD : Hid (∀ W, Calls Try.prog 31 #[.int .u8 47] W fun e w' => e = .returned (.bool false) ∧ w' = W)) (_n46 : ((s[p].toNat : Int) == 46) = false) (CL : Hid (∀ W, Calls Try.prog 33 #[.int .u8 47] W fun e w' => e = .returned (.bool false) ∧ w' = W)) (h47 : (s[p].toNat : Int) = 47) (CPat : Hid (∀ W, Below w.heap.size w W → Calls Try.prog 36 #[v] W fun e w' => e = .returned (.bool false) ∧ Below W.heap.size W w')) (hlt : p + 1 < s.size) (C2 : Hid (∀ W, Calls Try.prog 34 #[.string (s.extract p (p + 2)), .string ⟨#[43, 61, 32, 45, 61, 32, 42, 61, 32, 47, 61, 32, 37, 61, 32, 61, 61, 32, 60, 61, 32, 62, 61, 32, 33, 61, 32, 43, 43, 32, 45, 45, 32, 38, 38, 32, 124, 124, 32, 62, 62, 32, 33, 126]⟩] W fun e w' => e = .returned (.bool false) ∧ w' = W)) (C1 : Hid (∀ W, Calls Try.prog 34 #[.string (s.extract p (p + 1)), .string ⟨#[123, 32, 125, 32, 40, 32, 41, 32, 91, 32, 93, 32, 59, 32, 44, 32, 43, 32, 45, 32, 42, 32, 47, 32, 37, 32, 33, 32, 62, 32, 60, 32, 124, 32, 63, 32, 58, 32, 126, 32, 36, 32, 61]⟩] W fun e w' => e = .returned (.bool true) ∧ w' = W))  : Calls Try.prog 19 #[.string s, .int .i64 (p : Int), v] w (RoPost p w (.tok 8 (s.extract p (p + 1)).data.toList 1)) := by
  have e1 : (p : Int) + 1 ≤ (s.size : Int) := by omega
  have e2 : (p : Int) + 1 < (s.size : Int) := by omega
  have e3 : (p : Int) + 2 ≤ (s.size : Int) := by omega
  go_enter Try.func19, Try.ntmps19
  go_wp2_with fail
  refine (CD.out _).mono ?_
  rintro e w1 ⟨rfl, rfl⟩
  go_wp2_with fail
  refine (CL.out _).mono ?_
  rintro e w1 ⟨rfl, rfl⟩
  go_wp2_with fail
  refine (CPat.out _ ((Below.refl _ w).alloc (Nat.le_refl _) _)).mono ?_
  rintro e w7 ⟨rfl, hb7⟩
  have R7 := Lib.hid ((R3.new w).below hb7 (by simp))
  have B7 := Lib.hid (new1 hb7)
  obtain ⟨⟨q0, q1, q2⟩, f0, f1, f2⟩ := R7.out
  have L7 : w.heap.size < w7.heap.size := by have := hb7.size; simp at this; omega
  clear hb7
  go_wp2_with fail
  refine (C2.out _).mono ?_
  rintro e w1 ⟨rfl, rfl⟩
  go_wp2_with fail
  refine (C1.out _).mono ?_
  rintro e w1 ⟨rfl, rfl⟩
  go_wp2_with fail
  obtain ⟨z0, z1, z2⟩ := put3 (x := .int .i64 8) (y := .string (s.extract p (p + 1))) (z := .int .i64 (p : Int)) R7.out
  have ZB := Lib.hid (sets3 (a := .int .i64 8) (b := .string (s.extract p (p + 1))) (c := .int .i64 (p : Int)) B7.out)
  generalize (((w1.setCell ⟨w.heap.size, 0, none⟩ (.int .i64 8)).setCell ⟨w.heap.size, 1, none⟩ (.string (s.extract p (p + 1)))).setCell ⟨w.heap.size, 2, none⟩ (.int .i64 (p : Int))) = W9 at *
  refine bodyPost_ret (v := .tuple #[.agg #[.int .i64 8, .string (s.extract p (p + 1)), .int .i64 (p : Int)], .int .i64 ((p : Int) + 1)]) ?_ rfl ?_
  · simp [results, Try.results19, go_sem, z0, z1, z2]
  · exact ro_tok (k := 8) (z := 1) (by omega) (ZB.out)
set_option maxRecDepth 100000 in
set_option maxHeartbeats 4000000 in
theorem rone_sg_d_lt_none (s : ByteArray) (p : Nat) (v : Value) (w : World) (hs : s.size ≤ 10000) (hp : p < s.size) (_n10 : ((s[p].toNat : Int) == 10) = false) (CD : Hid (∀ W, Calls Try.prog 31 #[.int .u8 47] W fun e w' => e = .returned (.bool false) ∧ w' = W)) (_n46 : ((s[p].toNat : Int) == 46) = false) (CL : Hid (∀ W, Calls Try.prog 33 #[.int .u8 47] W fun e w' => e = .returned (.bool false) ∧ w' = W)) (h47 : (s[p].toNat : Int) = 47) (CPat : Hid (∀ W, Below w.heap.size w W → Calls Try.prog 36 #[v] W fun e w' => e = .returned (.bool false) ∧ Below W.heap.size W w')) (hlt : p + 1 < s.size) (C2 : Hid (∀ W, Calls Try.prog 34 #[.string (s.extract p (p + 2)), .string ⟨#[43, 61, 32, 45, 61, 32, 42, 61, 32, 47, 61, 32, 37, 61, 32, 61, 61, 32, 60, 61, 32, 62, 61, 32, 33, 61, 32, 43, 43, 32, 45, 45, 32, 38, 38, 32, 124, 124, 32, 62, 62, 32, 33, 126]⟩] W fun e w' => e = .returned (.bool false) ∧ w' = W)) (C1 : Hid (∀ W, Calls Try.prog 34 #[.string (s.extract p (p + 1)), .string ⟨#[123, 32, 125, 32, 40, 32, 41, 32, 91, 32, 93, 32, 59, 32, 44, 32, 43, 32, 45, 32, 42, 32, 47, 32, 37, 32, 33, 32, 62, 32, 60, 32, 124, 32, 63, 32, 58, 32, 126, 32, 36, 32, 61]⟩] W fun e w' => e = .returned (.bool false) ∧ w' = W))  : Calls Try.prog 19 #[.string s, .int .i64 (p : Int), v] w (RoPost p w (.bad 0)) := by
  have e1 : (p : Int) + 1 ≤ (s.size : Int) := by omega
  have e2 : (p : Int) + 1 < (s.size : Int) := by omega
  have e3 : (p : Int) + 2 ≤ (s.size : Int) := by omega
  go_enter Try.func19, Try.ntmps19
  go_wp2_with fail
  refine (CD.out _).mono ?_
  rintro e w1 ⟨rfl, rfl⟩
  go_wp2_with fail
  refine (CL.out _).mono ?_
  rintro e w1 ⟨rfl, rfl⟩
  go_wp2_with fail
  refine (CPat.out _ ((Below.refl _ w).alloc (Nat.le_refl _) _)).mono ?_
  rintro e w7 ⟨rfl, hb7⟩
  have R7 := Lib.hid ((R3.new w).below hb7 (by simp))
  have B7 := Lib.hid (new1 hb7)
  obtain ⟨⟨q0, q1, q2⟩, f0, f1, f2⟩ := R7.out
  have L7 : w.heap.size < w7.heap.size := by have := hb7.size; simp at this; omega
  clear hb7
  go_wp2_with fail
  refine (C2.out _).mono ?_
  rintro e w1 ⟨rfl, rfl⟩
  go_wp2_with fail
  refine (C1.out _).mono ?_
  rintro e w1 ⟨rfl, rfl⟩
  go_wp2_with fail
  obtain ⟨z0, z1, z2⟩ := put3 (x := .int .i64 0) (y := .string ⟨#[]⟩) (z := .int .i64 0) R7.out
  have ZB := Lib.hid (sets3 (a := .int .i64 0) (b := .string ⟨#[]⟩) (c := .int .i64 0) B7.out)
  generalize (((w1.setCell ⟨w.heap.size, 0, none⟩ (.int .i64 0)).setCell ⟨w.heap.size, 1, none⟩ (.string ⟨#[]⟩)).setCell ⟨w.heap.size, 2, none⟩ (.int .i64 0)) = W9 at *
  refine bodyPost_ret (v := .tuple #[.agg #[.int .i64 0, .string ⟨#[]⟩, .int .i64 0], .int .i64 (-1)]) ?_ rfl ?_
  · simp [results, Try.results19, go_sem, z0, z1, z2]
  · exact ro_bad0 ZB.out
set_option maxRecDepth 100000 in
set_option maxHeartbeats 4000000 in
theorem rone_sg_d_ge_one (s : ByteArray) (p : Nat) (v : Value) (w : World) (hs : s.size ≤ 10000) (hp : p < s.size) (_n10 : ((s[p].toNat : Int) == 10) = false) (CD : Hid (∀ W, Calls Try.prog 31 #[.int .u8 47] W fun e w' => e = .returned (.bool false) ∧ w' = W)) (_n46 : ((s[p].toNat : Int) == 46) = false) (CL : Hid (∀ W, Calls Try.prog 33 #[.int .u8 47] W fun e w' => e = .returned (.bool false) ∧ w' = W)) (h47 : (s[p].toNat : Int) = 47) (CPat : Hid (∀ W, Below w.heap.size w W → Calls Try.prog 36 #[v] W fun e w' => e = .returned (.bool false) ∧ Below W.heap.size W w')) (hlt : ¬ p + 1 < s.size) (C1 : Hid (∀ W, Calls Try.prog 34 #[.string (s.extract p (p + 1)), .string ⟨#[123, 32, 125, 32, 40, 32, 41, 32, 91, 32, 93, 32, 59, 32, 44, 32, 43, 32, 45, 32, 42, 32, 47, 32, 37, 32, 33, 32, 62, 32, 60, 32, 124, 32, 63, 32, 58, 32, 126, 32, 36, 32, 61]⟩] W fun e w' => e = .returned (.bool true) ∧ w' = W))  : Calls Try.prog 19 #[.string s, .int .i64 (p : Int), v] w (RoPost p w (.tok 8 (s.extract p (p + 1)).data.toList 1)) := by
  have e1 : (p : Int) + 1 ≤ (s.size : Int) := by omega
  have e2 : ¬ (p : Int) + 1 < (s.size : Int) := by omega
  go_enter Try.func19, Try.ntmps19
  go_wp2_with fail
  refine (CD.out _).mono ?_
  rintro e w1 ⟨rfl, rfl⟩
  go_wp2_with fail
  refine (CL.out _).mono ?_
  rintro e w1 ⟨rfl, rfl⟩
  go_wp2_with fail
  refine (CPat.out _ ((Below.refl _ w).alloc (Nat.le_refl _) _)).mono ?_
  rintro e w7 ⟨rfl, hb7⟩
  have R7 := Lib.hid ((R3.new w).below hb7 (by simp))
  have B7 := Lib.hid (new1 hb7)
  obtain ⟨⟨q0, q1, q2⟩, f0, f1, f2⟩ := R7.out
  have L7 : w.heap.size < w7.heap.size := by have := hb7.size; simp at this; omega
  clear hb7
  go_wp2_with fail
  refine (C1.out _).mono ?_
  rintro e w1 ⟨rfl, rfl⟩
  go_wp2_with fail
  obtain ⟨z0, z1, z2⟩ := put3 (x := .int .i64 8) (y := .string (s.extract p (p + 1))) (z := .int .i64 (p : Int)) R7.out
  have ZB := Lib.hid (sets3 (a := .int .i64 8) (b := .string (s.extract p (p + 1))) (c := .int .i64 (p : Int)) B7.out)
  generalize (((w1.setCell ⟨w.heap.size, 0, none⟩ (.int .i64 8)).setCell ⟨w.heap.size, 1, none⟩ (.string (s.extract p (p + 1)))).setCell ⟨w.heap.size, 2, none⟩ (.int .i64 (p : Int))) = W9 at *
  refine bodyPost_ret (v := .tuple #[.agg #[.int .i64 8, .string (s.extract p (p + 1)), .int .i64 (p : Int)], .int .i64 ((p : Int) + 1)]) ?_ rfl ?_
  · simp [results, Try.results19, go_sem, z0, z1, z2]
  · exact ro_tok (k := 8) (z := 1) (by omega) (ZB.out)
set_option maxRecDepth 100000 in
set_option maxHeartbeats 4000000 in
theorem rone_sg_d_ge_none (s : ByteArray) (p : Nat) (v : Value) (w : World) (hs : s.size ≤ 10000) (hp : p < s.size) (_n10 : ((s[p].toNat : Int) == 10) = false) (CD : Hid (∀ W, Calls Try.prog 31 #[.int .u8 47] W fun e w' => e = .returned (.bool false) ∧ w' = W)) (_n46 : ((s[p].toNat : Int) == 46) = false) (CL : Hid (∀ W, Calls Try.prog 33 #[.int .u8 47] W fun e w' => e = .returned (.bool false) ∧ w' = W)) (h47 : (s[p].toNat : Int) = 47) (CPat : Hid (∀ W, Below w.heap.size w W → Calls Try.prog 36 #[v] W fun e w' => e = .returned (.bool false) ∧ Below W.heap.size W w')) (hlt : ¬ p + 1 < s.size) (C1 : Hid (∀ W, Calls Try.prog 34 #[.string (s.extract p (p + 1)), .string ⟨#[123, 32, 125, 32, 40, 32, 41, 32, 91, 32, 93, 32, 59, 32, 44, 32, 43, 32, 45, 32, 42, 32, 47, 32, 37, 32, 33, 32, 62, 32, 60, 32, 124, 32, 63, 32, 58, 32, 126, 32, 36, 32, 61]⟩] W fun e w' => e = .returned (.bool false) ∧ w' = W))  : Calls Try.prog 19 #[.string s, .int .i64 (p : Int), v] w (RoPost p w (.bad 0)) := by
  have e1 : (p : Int) + 1 ≤ (s.size : Int) := by omega
  have e2 : ¬ (p : Int) + 1 < (s.size : Int) := by omega
  go_enter Try.func19, Try.ntmps19
  go_wp2_with fail
  refine (CD.out _).mono ?_
  rintro e w1 ⟨rfl, rfl⟩
  go_wp2_with fail
  refine (CL.out _).mono ?_
  rintro e w1 ⟨rfl, rfl⟩
  go_wp2_with fail
  refine (CPat.out _ ((Below.refl _ w).alloc (Nat.le_refl _) _)).mono ?_
  rintro e w7 ⟨rfl, hb7⟩
  have R7 := Lib.hid ((R3.new w).below hb7 (by simp))
  have B7 := Lib.hid (new1 hb7)
  obtain ⟨⟨q0, q1, q2⟩, f0, f1, f2⟩ := R7.out
  have L7 : w.heap.size < w7.heap.size := by have := hb7.size; simp at this; omega
  clear hb7
  go_wp2_with fail
  refine (C1.out _).mono ?_
  rintro e w1 ⟨rfl, rfl⟩
  go_wp2_with fail
  obtain ⟨z0, z1, z2⟩ := put3 (x := .int .i64 0) (y := .string ⟨#[]⟩) (z := .int .i64 0) R7.out
  have ZB := Lib.hid (sets3 (a := .int .i64 0) (b := .string ⟨#[]⟩) (c := .int .i64 0) B7.out)
  generalize (((w1.setCell ⟨w.heap.size, 0, none⟩ (.int .i64 0)).setCell ⟨w.heap.size, 1, none⟩ (.string ⟨#[]⟩)).setCell ⟨w.heap.size, 2, none⟩ (.int .i64 0)) = W9 at *
  refine bodyPost_ret (v := .tuple #[.agg #[.int .i64 0, .string ⟨#[]⟩, .int .i64 0], .int .i64 (-1)]) ?_ rfl ?_
  · simp [results, Try.results19, go_sem, z0, z1, z2]
  · exact ro_bad0 ZB.out
set_option maxRecDepth 100000 in
set_option maxHeartbeats 4000000 in
theorem rone_sg_p_lt_none (s : ByteArray) (p : Nat) (v : Value) (w : World) (hs : s.size ≤ 10000) (hp : p < s.size) (_n10 : ((s[p].toNat : Int) == 10) = false) (CD : Hid (∀ W, Calls Try.prog 31 #[.int .u8 46] W fun e w' => e = .returned (.bool false) ∧ w' = W)) (hc : (s[p].toNat : Int) = 46) (CP : Hid (∀ W, Calls Try.prog 32 #[.string s, .int .i64 ((p : Int) + 1)] W fun e w' => e = .returned (.int .i64 (0 : Int)) ∧ w' = W)) (CL : Hid (∀ W, Calls Try.prog 33 #[.int .u8 46] W fun e w' => e = .returned (.bool false) ∧ w' = W)) (hlt : p + 1 < s.size) (C2 : Hid (∀ W, Calls Try.prog 34 #[.string (s.extract p (p + 2)), .string ⟨#[43, 61, 32, 45, 61, 32, 42, 61, 32, 47, 61, 32, 37, 61, 32, 61, 61, 32, 60, 61, 32, 62, 61, 32, 33, 61, 32, 43, 43, 32, 45, 45, 32, 38, 38, 32, 124, 124, 32, 62, 62, 32, 33, 126]⟩] W fun e w' => e = .returned (.bool false) ∧ w' = W)) (C1 : Hid (∀ W, Calls Try.prog 34 #[.string (s.extract p (p + 1)), .string ⟨#[123, 32, 125, 32, 40, 32, 41, 32, 91, 32, 93, 32, 59, 32, 44, 32, 43, 32, 45, 32, 42, 32, 47, 32, 37, 32, 33, 32, 62, 32, 60, 32, 124, 32, 63, 32, 58, 32, 126, 32, 36, 32, 61]⟩] W fun e w' => e = .returned (.bool false) ∧ w' = W))  : Calls Try.prog 19 #[.string s, .int .i64 (p : Int), v] w (RoPost p w (.bad 0)) := by
  have e1 : (p : Int) + 1 ≤ (s.size : Int) := by omega
  have e2 : (p : Int) + 1 < (s.size : Int) := by omega
  have e3 : (p : Int) + 2 ≤ (s.size : Int) := by omega
  go_enter Try.func19, Try.ntmps19
  go_wp2_with fail
  refine (CD.out _).mono ?_
  rintro e w1 ⟨rfl, rfl⟩
  go_wp2_with fail
  refine (CP.out _).mono ?_
  rintro e w1 ⟨rfl, rfl⟩
  go_wp2_with fail
  refine (CL.out _).mono ?_
  rintro e w1 ⟨rfl, rfl⟩
  go_wp2_with fail
  refine (C2.out _).mono ?_
  rintro e w1 ⟨rfl, rfl⟩
  go_wp2_with fail
  refine (C1.out _).mono ?_
  rintro e w1 ⟨rfl, rfl⟩
  go_wp2_with fail
  refine bodyPost_ret (v := .tuple #[.agg #[.int .i64 0, .string ⟨#[]⟩, .int .i64 0], .int .i64 (-1)]) ?_ rfl ?_
  · simp [results, Try.results19, go_sem]
  · exact ro_bad0 (Below.alloc (Below.refl _ _) (Nat.le_refl _) _)
set_option maxRecDepth 100000 in
set_option maxHeartbeats 4000000 in
theorem rone_sg_p_ge_none (s : ByteArray) (p : Nat) (v : Value) (w : World) (hs : s.size ≤ 10000) (hp : p < s.size) (_n10 : ((s[p].toNat : Int) == 10) = false) (CD : Hid (∀ W, Calls Try.prog 31 #[.int .u8 46] W fun e w' => e = .returned (.bool false) ∧ w' = W)) (hc : (s[p].toNat : Int) = 46) (CP : Hid (∀ W, Calls Try.prog 32 #[.string s, .int .i64 ((p : Int) + 1)] W fun e w' => e = .returned (.int .i64 (0 : Int)) ∧ w' = W)) (CL : Hid (∀ W, Calls Try.prog 33 #[.int .u8 46] W fun e w' => e = .returned (.bool false) ∧ w' = W)) (hlt : ¬ p + 1 < s.size) (C1 : Hid (∀ W, Calls Try.prog 34 #[.string (s.extract p (p + 1)), .string ⟨#[123, 32, 125, 32, 40, 32, 41, 32, 91, 32, 93, 32, 59, 32, 44, 32, 43, 32, 45, 32, 42, 32, 47, 32, 37, 32, 33, 32, 62, 32, 60, 32, 124, 32, 63, 32, 58, 32, 126, 32, 36, 32, 61]⟩] W fun e w' => e = .returned (.bool false) ∧ w' = W))  : Calls Try.prog 19 #[.string s, .int .i64 (p : Int), v] w (RoPost p w (.bad 0)) := by
  have e1 : (p : Int) + 1 ≤ (s.size : Int) := by omega
  have e2 : ¬ (p : Int) + 1 < (s.size : Int) := by omega
  go_enter Try.func19, Try.ntmps19
  go_wp2_with fail
  refine (CD.out _).mono ?_
  rintro e w1 ⟨rfl, rfl⟩
  go_wp2_with fail
  refine (CP.out _).mono ?_
  rintro e w1 ⟨rfl, rfl⟩
  go_wp2_with fail
  refine (CL.out _).mono ?_
  rintro e w1 ⟨rfl, rfl⟩
  go_wp2_with fail
  refine (C1.out _).mono ?_
  rintro e w1 ⟨rfl, rfl⟩
  go_wp2_with fail
  refine bodyPost_ret (v := .tuple #[.agg #[.int .i64 0, .string ⟨#[]⟩, .int .i64 0], .int .i64 (-1)]) ?_ rfl ?_
  · simp [results, Try.results19, go_sem]
  · exact ro_bad0 (Below.alloc (Below.refl _ _) (Nat.le_refl _) _)
end Go.Proofs.Ytfmjajmdkndknaa
