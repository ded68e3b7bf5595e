/-
  THE WALK of scribelaw06.CellIs: it returns true, and nothing that was there is written, where the library's table of powers of ten is as it was laid.
-/
import Derived.Test.YtnickicmfogahaaDoorCellM
import Derived.Test.YtnickicmfogahaaDoorOrd
import Derived.Test.YtnickicmfogahaaDoorRef6C
import Derived.Deep.RegionHeld3
import Derived.Deep.DeepCutAuto
import Derived.Deep.CutBlock
namespace Go.Proofs.YtnickicmfogahaaDoor
open Go.RowKit

/-- Two values in memory, in two blocks of the call's own. -/
structure Two (W w : World) (A B : Nat) (x1 x2 x3 y1 y2 y3 : Value) : Prop where
  a0 : w.cell? ⟨A, 0, none⟩ = some x1
  a1 : w.cell? ⟨A, 1, none⟩ = some x2
  a2 : w.cell? ⟨A, 2, none⟩ = some x3
  b0 : w.cell? ⟨B, 0, none⟩ = some y1
  b1 : w.cell? ⟨B, 1, none⟩ = some y2
  b2 : w.cell? ⟨B, 2, none⟩ = some y3
  fa0 : w.frozen? ⟨A, 0, none⟩ = false
  fa1 : w.frozen? ⟨A, 1, none⟩ = false
  fa2 : w.frozen? ⟨A, 2, none⟩ = false
  fb0 : w.frozen? ⟨B, 0, none⟩ = false
  fb1 : w.frozen? ⟨B, 1, none⟩ = false
  fb2 : w.frozen? ⟨B, 2, none⟩ = false
  bel : Below W.heap.size W w
theorem Two.keep {W w w3 : World} {A B : Nat} {x1 x2 x3 y1 y2 y3 : Value} (h : Two W w A B x1 x2 x3 y1 y2 y3) (hb : Below w.heap.size w w3) : Two W w3 A B x1 x2 x3 y1 y2 y3 := by
  have k : ∀ {c o : Nat} {x : Value}, w.cell? ⟨c, o, none⟩ = some x → w3.cell? ⟨c, o, none⟩ = some x := fun h => (hb.cell (p := ⟨_, _, none⟩) (World.block_lt_of_cell? _ _ h)).trans h
  have hA : A < w.heap.size := World.block_lt_of_cell? _ _ h.a0
  have hB : B < w.heap.size := World.block_lt_of_cell? _ _ h.b0
  have f : ∀ {c o : Nat}, c < w.heap.size → w.frozen? ⟨c, o, none⟩ = false → w3.frozen? ⟨c, o, none⟩ = false := fun hc h => (hb.frozen (p := ⟨_, _, none⟩) hc).trans h
  exact ⟨k h.a0, k h.a1, k h.a2, k h.b0, k h.b1, k h.b2, f hA h.fa0, f hA h.fa1, f hA h.fa2, f hB h.fb0, f hB h.fb1, f hB h.fb2, h.bel.trans (hb.mono h.bel.size)⟩
theorem Two.drew {W w : World} {A B : Nat} {x1 x2 x3 y1 y2 y3 : Value} (h : Two W w A B x1 x2 x3 y1 y2 y3) : Two W w.drew A B x1 x2 x3 y1 y2 y3 :=
  ⟨h.a0, h.a1, h.a2, h.b0, h.b1, h.b2, h.fa0, h.fa1, h.fa2, h.fb0, h.fb1, h.fb2, h.bel.drew⟩
theorem set_same {w : World} {a o : Nat} {x y : Value} (h : w.cell? ⟨a, o, none⟩ = some y) : (w.setCell ⟨a, o, none⟩ x).cell? ⟨a, o, none⟩ = some x := World.cell?_setCell_same _ _ _ h
theorem set_far {w : World} {a o b q : Nat} {x y : Value} (h : w.cell? ⟨b, q, none⟩ = some y) (hne : ¬ (a = b ∧ o = q)) : (w.setCell ⟨a, o, none⟩ x).cell? ⟨b, q, none⟩ = some y := by
  rw [World.cell?_setCell_other _ _ _ _ (by intro e; exact hne (by simpa using e))]; exact h
/-- Three cells of one block written anew. -/
theorem set3 {w : World} {a : Nat} {u1 u2 u3 : Value} (h : w.cell? ⟨a, 0, none⟩ = some u1 ∧ w.cell? ⟨a, 1, none⟩ = some u2 ∧ w.cell? ⟨a, 2, none⟩ = some u3) (x y z : Value) :
    (((w.setCell ⟨a, 0, none⟩ x).setCell ⟨a, 1, none⟩ y).setCell ⟨a, 2, none⟩ z).cell? ⟨a, 0, none⟩ = some x
    ∧ (((w.setCell ⟨a, 0, none⟩ x).setCell ⟨a, 1, none⟩ y).setCell ⟨a, 2, none⟩ z).cell? ⟨a, 1, none⟩ = some y
    ∧ (((w.setCell ⟨a, 0, none⟩ x).setCell ⟨a, 1, none⟩ y).setCell ⟨a, 2, none⟩ z).cell? ⟨a, 2, none⟩ = some z :=
  ⟨set_far (set_far (set_same h.1) (by omega)) (by omega), set_far (set_same (set_far h.2.1 (by omega))) (by omega), set_same (set_far (set_far h.2.2 (by omega)) (by omega))⟩
theorem far3 {w : World} {a b : Nat} (hab : a ≠ b) (x y z : Value) {o : Nat} {u : Value} (h : w.cell? ⟨b, o, none⟩ = some u) : (((w.setCell ⟨a, 0, none⟩ x).setCell ⟨a, 1, none⟩ y).setCell ⟨a, 2, none⟩ z).cell? ⟨b, o, none⟩ = some u :=
  set_far (set_far (set_far h (by omega)) (by omega)) (by omega)
theorem frz3 {w : World} {a : Nat} {x y z : Value} {b o : Nat} (h : w.frozen? ⟨b, o, none⟩ = false) : (((w.setCell ⟨a, 0, none⟩ x).setCell ⟨a, 1, none⟩ y).setCell ⟨a, 2, none⟩ z).frozen? ⟨b, o, none⟩ = false := by
  simp [go_sem, h]
theorem bset3 {W w : World} {a : Nat} (hb : Below W.heap.size W w) (ha : W.heap.size ≤ a) (x y z : Value) : Below W.heap.size W (((w.setCell ⟨a, 0, none⟩ x).setCell ⟨a, 1, none⟩ y).setCell ⟨a, 2, none⟩ z) :=
  ((hb.setCell ha _).setCell ha _).setCell ha _
theorem set_two {W w : World} {A B : Nat} {u1 u2 u3 v1 v2 v3 : Value} (h : Two W w A B u1 u2 u3 v1 v2 v3) (hA : W.heap.size ≤ A) (hB : W.heap.size ≤ B) (hAB : A ≠ B) (x1 x2 x3 y1 y2 y3 : Value) :
    Two W ((((((w.setCell ⟨A, 0, none⟩ x1).setCell ⟨A, 1, none⟩ x2).setCell ⟨A, 2, none⟩ x3).setCell ⟨B, 0, none⟩ y1).setCell ⟨B, 1, none⟩ y2).setCell ⟨B, 2, none⟩ y3) A B x1 x2 x3 y1 y2 y3 := by
  have e1 := set3 ⟨h.a0, h.a1, h.a2⟩ x1 x2 x3
  have e2 := set3 (a := B) ⟨far3 hAB x1 x2 x3 h.b0, far3 hAB x1 x2 x3 h.b1, far3 hAB x1 x2 x3 h.b2⟩ y1 y2 y3
  exact ⟨far3 (Ne.symm hAB) _ _ _ e1.1, far3 (Ne.symm hAB) _ _ _ e1.2.1, far3 (Ne.symm hAB) _ _ _ e1.2.2, e2.1, e2.2.1, e2.2.2, frz3 (frz3 h.fa0), frz3 (frz3 h.fa1), frz3 (frz3 h.fa2), frz3 (frz3 h.fb0), frz3 (frz3 h.fb1), frz3 (frz3 h.fb2), bset3 (bset3 h.bel hA _ _ _) hB _ _ _⟩
/-- One value in memory, in a block of its own. -/
structure One (w : World) (P : Nat) (x1 x2 x3 : Value) : Prop where
  a0 : w.cell? ⟨P, 0, none⟩ = some x1
  a1 : w.cell? ⟨P, 1, none⟩ = some x2
  a2 : w.cell? ⟨P, 2, none⟩ = some x3
  f0 : w.frozen? ⟨P, 0, none⟩ = false
  f1 : w.frozen? ⟨P, 1, none⟩ = false
  f2 : w.frozen? ⟨P, 2, none⟩ = false
theorem One.lt {w : World} {P : Nat} {x1 x2 x3 : Value} (h : One w P x1 x2 x3) : P < w.heap.size := World.block_lt_of_cell? _ _ h.a0
theorem One.keep {w w3 : World} {P : Nat} {x1 x2 x3 : Value} (h : One w P x1 x2 x3) (hb : Below w.heap.size w w3) : One w3 P x1 x2 x3 := by
  have k : ∀ o, w3.cell? ⟨P, o, none⟩ = w.cell? ⟨P, o, none⟩ := fun o => hb.cell (p := ⟨P, o, none⟩) h.lt
  have f : ∀ o, w3.frozen? ⟨P, o, none⟩ = w.frozen? ⟨P, o, none⟩ := fun o => hb.frozen (p := ⟨P, o, none⟩) h.lt
  exact ⟨(k _).trans h.a0, (k _).trans h.a1, (k _).trans h.a2, (f _).trans h.f0, (f _).trans h.f1, (f _).trans h.f2⟩
theorem One.new (w : World) (T : TypeId) (x1 x2 x3 : Value) : One (w.alloc (.cells #[x1, x2, x3] T)) w.heap.size x1 x2 x3 := by
  constructor <;> simp [go_sem]
theorem Two.lts {W w : World} {A B : Nat} {x1 x2 x3 y1 y2 y3 : Value} (h : Two W w A B x1 x2 x3 y1 y2 y3) : A < w.heap.size ∧ B < w.heap.size := ⟨World.block_lt_of_cell? _ _ h.a0, World.block_lt_of_cell? _ _ h.b0⟩
/-- Four values in memory: two of the program's, two of the document's. -/
def Four (W w : World) (A B P Q : Nat) (x1 x2 x3 y1 y2 y3 : Value) : Prop :=
  w.cell? ⟨A, 0, none⟩ = some x1 ∧ w.cell? ⟨A, 1, none⟩ = some x2 ∧ w.cell? ⟨A, 2, none⟩ = some x3 ∧ w.cell? ⟨B, 0, none⟩ = some y1 ∧ w.cell? ⟨B, 1, none⟩ = some y2 ∧ w.cell? ⟨B, 2, none⟩ = some y3 ∧
  w.cell? ⟨P, 0, none⟩ = some x1 ∧ w.cell? ⟨P, 1, none⟩ = some x2 ∧ w.cell? ⟨P, 2, none⟩ = some x3 ∧ w.cell? ⟨Q, 0, none⟩ = some y1 ∧ w.cell? ⟨Q, 1, none⟩ = some y2 ∧ w.cell? ⟨Q, 2, none⟩ = some y3 ∧ Below W.heap.size W w
theorem Four.keep {W w w3 : World} {A B P Q : Nat} {x1 x2 x3 y1 y2 y3 : Value} (h : Four W w A B P Q x1 x2 x3 y1 y2 y3) (hb : Below w.heap.size w w3) : Four W w3 A B P Q x1 x2 x3 y1 y2 y3 := by
  have k : ∀ {c o : Nat} {x : Value}, w.cell? ⟨c, o, none⟩ = some x → w3.cell? ⟨c, o, none⟩ = some x := fun h => (hb.cell (p := ⟨_, _, none⟩) (World.block_lt_of_cell? _ _ h)).trans h
  obtain ⟨h1, h2, h3, h4, h5, h6, h7, h8, h9, h10, h11, h12, h13⟩ := h
  exact ⟨k h1, k h2, k h3, k h4, k h5, k h6, k h7, k h8, k h9, k h10, k h11, k h12, h13.trans (hb.mono h13.size)⟩
theorem Four.drew {W w : World} {A B P Q : Nat} {x1 x2 x3 y1 y2 y3 : Value} (h : Four W w A B P Q x1 x2 x3 y1 y2 y3) : Four W w.drew A B P Q x1 x2 x3 y1 y2 y3 := by
  obtain ⟨h1, h2, h3, h4, h5, h6, h7, h8, h9, h10, h11, h12, h13⟩ := h
  exact ⟨h1, h2, h3, h4, h5, h6, h7, h8, h9, h10, h11, h12, h13.drew⟩
theorem Four.bel {W w : World} {A B P Q : Nat} {x1 x2 x3 y1 y2 y3 : Value} (h : Four W w A B P Q x1 x2 x3 y1 y2 y3) : Below W.heap.size W w := h.2.2.2.2.2.2.2.2.2.2.2.2
theorem four_of {W w : World} {A B P Q : Nat} {x1 x2 x3 y1 y2 y3 z1 z2 z3 u1 u2 u3 : Value} (h : Two W w A B x1 x2 x3 y1 y2 y3) (h5 : One w P z1 z2 z3) (h6 : One w Q u1 u2 u3) (hP : A < P ∧ B < P) (hQ : A < Q ∧ B < Q) (hPQ : P ≠ Q) (hA : W.heap.size ≤ A) :
    Four W ((((((w.setCell ⟨P, 0, none⟩ x1).setCell ⟨P, 1, none⟩ x2).setCell ⟨P, 2, none⟩ x3).setCell ⟨Q, 0, none⟩ y1).setCell ⟨Q, 1, none⟩ y2).setCell ⟨Q, 2, none⟩ y3) A B P Q x1 x2 x3 y1 y2 y3 := by
  have e1 := set3 ⟨h5.a0, h5.a1, h5.a2⟩ x1 x2 x3
  have e2 := set3 (a := Q) ⟨far3 hPQ x1 x2 x3 h6.a0, far3 hPQ x1 x2 x3 h6.a1, far3 hPQ x1 x2 x3 h6.a2⟩ y1 y2 y3
  have nA : P ≠ A ∧ Q ≠ A ∧ P ≠ B ∧ Q ≠ B := by omega
  have n := Ne.symm hPQ
  exact ⟨far3 nA.2.1 _ _ _ (far3 nA.1 _ _ _ h.a0), far3 nA.2.1 _ _ _ (far3 nA.1 _ _ _ h.a1), far3 nA.2.1 _ _ _ (far3 nA.1 _ _ _ h.a2), far3 nA.2.2.2 _ _ _ (far3 nA.2.2.1 _ _ _ h.b0), far3 nA.2.2.2 _ _ _ (far3 nA.2.2.1 _ _ _ h.b1), far3 nA.2.2.2 _ _ _ (far3 nA.2.2.1 _ _ _ h.b2),
    far3 n _ _ _ e1.1, far3 n _ _ _ e1.2.1, far3 n _ _ _ e1.2.2, e2.1, e2.2.1, e2.2.2, bset3 (bset3 h.bel (by omega) _ _ _) (by omega) _ _ _⟩
theorem below13 {W w : World} {A B P Q : Nat} {x1 x2 x3 y1 y2 y3 : Value} (h : w.cell? ⟨A, 0, none⟩ = some x1 ∧ w.cell? ⟨A, 1, none⟩ = some x2 ∧ w.cell? ⟨A, 2, none⟩ = some x3 ∧ w.cell? ⟨B, 0, none⟩ = some y1 ∧ w.cell? ⟨B, 1, none⟩ = some y2 ∧ w.cell? ⟨B, 2, none⟩ = some y3 ∧ w.cell? ⟨P, 0, none⟩ = some x1 ∧ w.cell? ⟨P, 1, none⟩ = some x2 ∧ w.cell? ⟨P, 2, none⟩ = some x3 ∧ w.cell? ⟨Q, 0, none⟩ = some y1 ∧ w.cell? ⟨Q, 1, none⟩ = some y2 ∧ w.cell? ⟨Q, 2, none⟩ = some y3 ∧ Below W.heap.size W w) : Below W.heap.size W w := h.2.2.2.2.2.2.2.2.2.2.2.2
theorem keep13 {W w w3 : World} {A B P Q : Nat} {x1 x2 x3 y1 y2 y3 : Value} (h : w.cell? ⟨A, 0, none⟩ = some x1 ∧ w.cell? ⟨A, 1, none⟩ = some x2 ∧ w.cell? ⟨A, 2, none⟩ = some x3 ∧ w.cell? ⟨B, 0, none⟩ = some y1 ∧ w.cell? ⟨B, 1, none⟩ = some y2 ∧ w.cell? ⟨B, 2, none⟩ = some y3 ∧ w.cell? ⟨P, 0, none⟩ = some x1 ∧ w.cell? ⟨P, 1, none⟩ = some x2 ∧ w.cell? ⟨P, 2, none⟩ = some x3 ∧ w.cell? ⟨Q, 0, none⟩ = some y1 ∧ w.cell? ⟨Q, 1, none⟩ = some y2 ∧ w.cell? ⟨Q, 2, none⟩ = some y3 ∧ Below W.heap.size W w) (hb : Below w.heap.size w w3) : w3.cell? ⟨A, 0, none⟩ = some x1 ∧ w3.cell? ⟨A, 1, none⟩ = some x2 ∧ w3.cell? ⟨A, 2, none⟩ = some x3 ∧ w3.cell? ⟨B, 0, none⟩ = some y1 ∧ w3.cell? ⟨B, 1, none⟩ = some y2 ∧ w3.cell? ⟨B, 2, none⟩ = some y3 ∧ w3.cell? ⟨P, 0, none⟩ = some x1 ∧ w3.cell? ⟨P, 1, none⟩ = some x2 ∧ w3.cell? ⟨P, 2, none⟩ = some x3 ∧ w3.cell? ⟨Q, 0, none⟩ = some y1 ∧ w3.cell? ⟨Q, 1, none⟩ = some y2 ∧ w3.cell? ⟨Q, 2, none⟩ = some y3 ∧ Below W.heap.size W w3 := Four.keep h hb
theorem draw13 {W w : World} {A B P Q : Nat} {x1 x2 x3 y1 y2 y3 : Value} (h : w.cell? ⟨A, 0, none⟩ = some x1 ∧ w.cell? ⟨A, 1, none⟩ = some x2 ∧ w.cell? ⟨A, 2, none⟩ = some x3 ∧ w.cell? ⟨B, 0, none⟩ = some y1 ∧ w.cell? ⟨B, 1, none⟩ = some y2 ∧ w.cell? ⟨B, 2, none⟩ = some y3 ∧ w.cell? ⟨P, 0, none⟩ = some x1 ∧ w.cell? ⟨P, 1, none⟩ = some x2 ∧ w.cell? ⟨P, 2, none⟩ = some x3 ∧ w.cell? ⟨Q, 0, none⟩ = some y1 ∧ w.cell? ⟨Q, 1, none⟩ = some y2 ∧ w.cell? ⟨Q, 2, none⟩ = some y3 ∧ Below W.heap.size W w) : w.drew.cell? ⟨A, 0, none⟩ = some x1 ∧ w.drew.cell? ⟨A, 1, none⟩ = some x2 ∧ w.drew.cell? ⟨A, 2, none⟩ = some x3 ∧ w.drew.cell? ⟨B, 0, none⟩ = some y1 ∧ w.drew.cell? ⟨B, 1, none⟩ = some y2 ∧ w.drew.cell? ⟨B, 2, none⟩ = some y3 ∧ w.drew.cell? ⟨P, 0, none⟩ = some x1 ∧ w.drew.cell? ⟨P, 1, none⟩ = some x2 ∧ w.drew.cell? ⟨P, 2, none⟩ = some x3 ∧ w.drew.cell? ⟨Q, 0, none⟩ = some y1 ∧ w.drew.cell? ⟨Q, 1, none⟩ = some y2 ∧ w.drew.cell? ⟨Q, 2, none⟩ = some y3 ∧ Below W.heap.size W w.drew := Four.drew h
set_option maxHeartbeats 8000000 in
set_option maxRecDepth 100000 in
theorem cis_in (k1 n1 k2 n2 : Int) (s01 s1 s02 s2 : ByteArray) (g1 g2 : Bool) (v c : Int) (t : ByteArray) (b : Bool) (w : World) (HG : Hid (Gl w))
    (AW : Hid (∀ W, Gl W → Calls Tryd.prog 7 #[] W fun e w' => e = .returned (.bool true) ∧ Below W.heap.size W w'))
    (C1 : Hid (∀ W, Calls Tryd.prog 5 #[.agg #[.int .i64 k1, .int .i64 n1, .string s01]] W fun e w' => e = .returned (.agg #[.int .i64 k1, .int .i64 n1, .string s1]) ∧ Below W.heap.size W w'))
    (C2 : Hid (∀ W, Calls Tryd.prog 5 #[.agg #[.int .i64 k2, .int .i64 n2, .string s02]] W fun e w' => e = .returned (.agg #[.int .i64 k2, .int .i64 n2, .string s2]) ∧ Below W.heap.size W w'))
    (G1 : Hid (∀ W, Calls Tryd.prog 8 #[.agg #[.int .i64 k1, .int .i64 n1, .string s1]] W fun e w' => e = .returned (.bool g1) ∧ Below W.heap.size W w'))
    (G2 : Hid (∀ W, Calls Tryd.prog 8 #[.agg #[.int .i64 k2, .int .i64 n2, .string s2]] W fun e w' => e = .returned (.bool g2) ∧ Below W.heap.size W w'))
    (R1 : Hid (∀ W, Calls Tryd.prog 9 #[.agg #[.int .i64 k1, .int .i64 n1, .string s1]] W fun e w' => e = .returned (.bool g1) ∧ Below W.heap.size W w'))
    (R2 : Hid (∀ W, Calls Tryd.prog 9 #[.agg #[.int .i64 k2, .int .i64 n2, .string s2]] W fun e w' => e = .returned (.bool g2) ∧ Below W.heap.size W w'))
    (N1 : (g1 && g2) = true → Hid (∀ W, Calls Tryd.prog 10 #[.agg #[.int .i64 k1, .int .i64 n1, .string s1]] W fun e w' => e = .returned (.int .i64 v) ∧ Below W.heap.size W w'))
    (N2 : (g1 && g2) = true → Hid (∀ W, Calls Tryd.prog 11 #[.agg #[.int .i64 k1, .int .i64 n1, .string s1]] W fun e w' => e = .returned (.int .i64 v) ∧ Below W.heap.size W w'))
    (S1 : (g1 && g2) = true → Hid (∀ W, Gl W → Calls Tryd.prog 12 #[.agg #[.int .i64 k1, .int .i64 n1, .string s1]] W fun e w' => e = .returned (.string t) ∧ Below W.heap.size W w'))
    (S2 : (g1 && g2) = true → Hid (∀ W, Calls Tryd.prog 13 #[.agg #[.int .i64 k1, .int .i64 n1, .string s1]] W fun e w' => e = .returned (.string t) ∧ Below W.heap.size W w'))
    (U1 : (g1 && g2) = true → Hid (∀ W, Calls Tryd.prog 14 #[.agg #[.int .i64 k1, .int .i64 n1, .string s1]] W fun e w' => e = .returned (.bool b) ∧ Below W.heap.size W w'))
    (U2 : (g1 && g2) = true → Hid (∀ W, Calls Tryd.prog 15 #[.agg #[.int .i64 k1, .int .i64 n1, .string s1]] W fun e w' => e = .returned (.bool b) ∧ Below W.heap.size W w'))
    (P1 : (g1 && g2) = true → Hid (∀ W, Gl W → Calls Tryd.prog 16 #[.agg #[.int .i64 k1, .int .i64 n1, .string s1], .agg #[.int .i64 k2, .int .i64 n2, .string s2]] W fun e w' => e = .returned (.int .i64 c) ∧ Below W.heap.size W w'))
    (P2 : (g1 && g2) = true → Hid (∀ W, Calls Tryd.prog 17 #[.agg #[.int .i64 k1, .int .i64 n1, .string s1], .agg #[.int .i64 k2, .int .i64 n2, .string s2]] W fun e w' => e = .returned (.int .i64 c) ∧ Below W.heap.size W w')) :
    Calls Tryd.prog 3 #[.agg #[.int .i64 k1, .int .i64 n1, .string s01], .agg #[.int .i64 k2, .int .i64 n2, .string s02]] w fun e w' => e = .returned (.bool true) ∧ Below w.heap.size w w' := by
  have TO := Lib.hid told_any
  go_enter Tryd.func3, Tryd.ntmps3
  go_wp2_with fail
  generalize hX : Obj.cells #[Value.int .i64 k1, Value.int .i64 n1, Value.string s01] 24 = X
  generalize hY : Obj.cells #[Value.int .i64 k2, Value.int .i64 n2, Value.string s02] 24 = Y
  obtain ⟨A, hAe⟩ : ∃ A, w.heap.size = A := ⟨_, rfl⟩
  obtain ⟨B, hBe⟩ : ∃ B, w.heap.size + 1 = B := ⟨_, rfl⟩
  have hs : Two w ((w.alloc X).alloc Y) A B (.int .i64 k1) (.int .i64 n1) (.string s01) (.int .i64 k2) (.int .i64 n2) (.string s02) := by
    rw [← hX, ← hY, ← hAe, ← hBe]
    refine ⟨by simp [go_sem], by simp [go_sem], by simp [go_sem], by simp [go_sem], by simp [go_sem], by simp [go_sem], by simp [go_sem], by simp [go_sem], by simp [go_sem], by simp [go_sem], by simp [go_sem], by simp [go_sem], ((Below.refl _ _).alloc (Nat.le_refl _) _).alloc (by simp) _⟩
  have hA : w.heap.size ≤ A := by omega
  have hB : w.heap.size ≤ B := by omega
  have hAB : A ≠ B := by omega
  clear hX hY
  rw [hBe, hAe]
  generalize (w.alloc X).alloc Y = w0 at *
  clear hAe hBe
  refine wp_region_L (st := [4, 5]) (S := fun w' => Two w w' A B (.int .i64 k1) (.int .i64 n1) (.string s01) (.int .i64 k2) (.int .i64 n2) (.string s02)) (by kernel_rfl) (hs.drew) (fun hHeld => ?_)
  refine wpAnyL_take (i := 0) (oi := _) (v := ?_) rfl (by kernel_rfl) (by kernel_rfl) (by kernel_rfl) (by decide) (by kernel_rfl) (by kernel_rfl) (by kernel_rfl) (fun _ _ _ h => h) (Or.inl ⟨by rfl, ?_⟩) (by assumption) ?_
  rotate_left
  · (intro w hSw; obtain ⟨q1, q2, q3, q4, q5, q6, _, _, _, _, _, _, _⟩ := hSw; go_simp; try with_reducible rfl)
  try simp only [List.getElem_toArray, List.getElem_cons_zero, Act.put, List.setIfInBounds_toArray, List.set_cons_zero, List.set_cons_succ]
  refine wpAnyL_take (i := 2) (oi := _) (v := ?_) rfl (by kernel_rfl) (by kernel_rfl) (by kernel_rfl) (by decide) (by kernel_rfl) (by kernel_rfl) (by kernel_rfl) (fun _ _ _ h => h) (Or.inl ⟨by rfl, ?_⟩) (by assumption) ?_
  rotate_left
  · (intro w hSw; obtain ⟨q1, q2, q3, q4, q5, q6, _, _, _, _, _, _, _⟩ := hSw; go_simp; try with_reducible rfl)
  try simp only [List.getElem_toArray, List.getElem_cons_zero, List.getElem_cons_succ, Act.put, List.setIfInBounds_toArray, List.set_cons_zero, List.set_cons_succ]
  refine wpAnyL_ready (rs := [1]) (by kernel_rfl) (by simp) ?_
  refine AllReadyL.cons (o := _) rfl (fun K hK => ?_) AllReadyL.nil
  go_simp
  refine (C1.out _).mono ?_
  rintro e w8 ⟨rfl, hb8⟩
  refine hK.out _ _ (hHeld.keep hb8) (fun hHeld => ?_)
  clear hK K
  try simp only [List.getElem_toArray, List.getElem_cons_zero, List.getElem_cons_succ, Act.put, List.setIfInBounds_toArray, List.set_cons_zero, List.set_cons_succ]
  refine wpAnyL_ready (rs := [3]) (by kernel_rfl) (by simp) ?_
  refine AllReadyL.cons (o := _) rfl (fun K hK => ?_) AllReadyL.nil
  go_simp
  refine (C2.out _).mono ?_
  rintro e w8 ⟨rfl, hb8⟩
  refine hK.out _ _ (hHeld.keep hb8) (fun hHeld => ?_)
  clear hK K
  try simp only [List.getElem_toArray, List.getElem_cons_zero, List.getElem_cons_succ, Act.put, List.setIfInBounds_toArray, List.set_cons_zero, List.set_cons_succ]
  obtain ⟨_, _, _, _, _, _, f1, f2, f3, f4, f5, f6, _⟩ := id hHeld
  refine wpAnyL_ready (rs := [4]) (by kernel_rfl) (by simp) ?_
  refine AllReadyL.store (o := _) rfl (by decide) (by decide) (fun K hK => ?_) AllReadyL.nil
  go_simp
  refine hK.out _ _ ?_
  clear hK K
  try simp only [List.getElem_toArray, List.getElem_cons_zero, List.getElem_cons_succ, Act.put, List.setIfInBounds_toArray, List.set_cons_zero, List.set_cons_succ]
  refine wpAnyL_ready (rs := [5]) (by kernel_rfl) (by simp) ?_
  refine AllReadyL.store (o := _) rfl (by decide) (by decide) (fun K hK => ?_) AllReadyL.nil
  go_simp
  refine hK.out _ _ ?_
  clear hK K
  try simp only [List.getElem_toArray, List.getElem_cons_zero, List.getElem_cons_succ, Act.put, List.setIfInBounds_toArray, List.set_cons_zero, List.set_cons_succ]
  refine wpAnyL_done (by kernel_rfl) ?_ _
  have HS : Two w ((((((w8.setCell ⟨A, 0, none⟩ (.int .i64 k1)).setCell ⟨A, 1, none⟩ (.int .i64 n1)).setCell ⟨A, 2, none⟩ (.string s1)).setCell ⟨B, 0, none⟩ (.int .i64 k2)).setCell ⟨B, 1, none⟩ (.int .i64 n2)).setCell ⟨B, 2, none⟩ (.string s2)) A B (.int .i64 k1) (.int .i64 n1) (.string s1) (.int .i64 k2) (.int .i64 n2) (.string s2) := set_two hHeld hA hB hAB _ _ _ _ _ _
  clear hHeld f1 f2 f3 f4 f5 f6
  generalize (((((w8.setCell ⟨A, 0, none⟩ (.int .i64 k1)).setCell ⟨A, 1, none⟩ (.int .i64 n1)).setCell ⟨A, 2, none⟩ (.string s1)).setCell ⟨B, 0, none⟩ (.int .i64 k2)).setCell ⟨B, 1, none⟩ (.int .i64 n2)).setCell ⟨B, 2, none⟩ (.string s2) = w9 at *
  clear hs
  go_upto_region 2 with fail
  go_cut [5, 6] (fun v5 v6 wx => ∃ P Q : Nat, v5 = .pointer (some ⟨P, 0, none⟩) ∧ v6 = .pointer (some ⟨Q, 0, none⟩) ∧ Hid (Four w wx A B P Q (.int .i64 k1) (.int .i64 n1) (.string s1) (.int .i64 k2) (.int .i64 n2) (.string s2)))
  case first =>
    refine wp_region_L (st := [6, 7]) (S := fun w' => Two w w' A B (.int .i64 k1) (.int .i64 n1) (.string s1) (.int .i64 k2) (.int .i64 n2) (.string s2)) (by kernel_rfl) (HS.drew) (fun hHeld => ?_)
    generalize w9.drew = w8 at *
    refine wpAnyL_take (i := 0) (oi := _) (v := ?_) rfl (by kernel_rfl) (by kernel_rfl) (by kernel_rfl) (by decide) (by kernel_rfl) (by kernel_rfl) (by kernel_rfl) (fun _ _ _ h => h) (Or.inl ⟨by rfl, ?_⟩) (by assumption) ?_
    rotate_left
    · (intro w hSw; obtain ⟨q1, q2, q3, q4, q5, q6, _, _, _, _, _, _, _⟩ := hSw; go_simp; try with_reducible rfl)
    try simp only [List.getElem_toArray, List.getElem_cons_zero, Act.put, List.setIfInBounds_toArray, List.set_cons_zero, List.set_cons_succ]
    refine wpAnyL_take (i := 2) (oi := _) (v := ?_) rfl (by kernel_rfl) (by kernel_rfl) (by kernel_rfl) (by decide) (by kernel_rfl) (by kernel_rfl) (by kernel_rfl) (fun _ _ _ h => h) (Or.inl ⟨by rfl, ?_⟩) (by assumption) ?_
    rotate_left
    · (intro w hSw; obtain ⟨q1, q2, q3, q4, q5, q6, _, _, _, _, _, _, _⟩ := hSw; go_simp; try with_reducible rfl)
    try simp only [List.getElem_toArray, List.getElem_cons_zero, List.getElem_cons_succ, Act.put, List.setIfInBounds_toArray, List.set_cons_zero, List.set_cons_succ]
    refine wpAnyL_ready (rs := [1, 4, 5]) (by kernel_rfl) (by simp) ?_
    refine AllReadyL.cons (o := _) rfl (fun K hK => ?_) (AllReadyL.cons (o := _) rfl (fun K hK => ?_) (AllReadyL.cons (o := _) rfl (fun K hK => ?_) AllReadyL.nil))
    · go_simp
      refine (TO.out _ _ _ _).mono ?_
      rintro e w8 ⟨rfl, hb8⟩
      refine hK.out _ _ (hHeld.keep hb8) (fun hHeld => ?_)
      clear hK K hb8
      try simp only [List.getElem_toArray, List.getElem_cons_zero, List.getElem_cons_succ, Act.put, List.setIfInBounds_toArray, List.set_cons_zero, List.set_cons_succ]
      refine wpAnyL_ready (rs := [3, 4, 5]) (by kernel_rfl) (by simp) ?_
      refine AllReadyL.cons (o := _) rfl (fun K hK => ?_) (AllReadyL.cons (o := _) rfl (fun K hK => ?_) (AllReadyL.cons (o := _) rfl (fun K hK => ?_) AllReadyL.nil))
      · go_simp
        refine (TO.out _ _ _ _).mono ?_
        rintro e w8 ⟨rfl, hb8⟩
        refine hK.out _ _ (hHeld.keep hb8) (fun hHeld => ?_)
        clear hK K hb8
        try simp only [List.getElem_toArray, List.getElem_cons_zero, List.getElem_cons_succ, Act.put, List.setIfInBounds_toArray, List.set_cons_zero, List.set_cons_succ]
        refine wpAnyL_ready (rs := [4, 5]) (by kernel_rfl) (by simp) ?_
        refine AllReadyL.cons (o := _) rfl (fun K hK => ?_) (AllReadyL.cons (o := _) rfl (fun K hK => ?_) AllReadyL.nil)
        · go_simp
          have hba : Below w8.heap.size w8 (w8.alloc (Obj.cells #[.int .i64 0, .int .i64 0, .string ⟨#[]⟩] 27)) := (Below.refl _ _).alloc (Nat.le_refl _) _
          have h5 := One.new w8 27 (.int .i64 0) (.int .i64 0) (.string ⟨#[]⟩)
          have hl5 := hHeld.lts
          refine hK.out _ _ (hHeld.keep hba) (fun hHeld => ?_)
          clear hK K hba
          generalize w8.heap.size = P5 at *
          generalize w8.alloc (Obj.cells #[.int .i64 0, .int .i64 0, .string ⟨#[]⟩] 27) = w8 at *
          try simp only [List.getElem_toArray, List.getElem_cons_zero, List.getElem_cons_succ, Act.put, List.setIfInBounds_toArray, List.set_cons_zero, List.set_cons_succ]
          refine wpAnyL_ready (rs := [5]) (by kernel_rfl) (by simp) ?_
          refine AllReadyL.cons (o := _) rfl (fun K hK => ?_) AllReadyL.nil
          · go_simp
            have hba : Below w8.heap.size w8 (w8.alloc (Obj.cells #[.int .i64 0, .int .i64 0, .string ⟨#[]⟩] 27)) := (Below.refl _ _).alloc (Nat.le_refl _) _
            have h6 := One.new w8 27 (.int .i64 0) (.int .i64 0) (.string ⟨#[]⟩)
            have hl6 := hHeld.lts
            have hne : P5 ≠ w8.heap.size := Nat.ne_of_lt h5.lt
            have h5 := h5.keep hba
            refine hK.out _ _ (hHeld.keep hba) (fun hHeld => ?_)
            clear hK K hba
            generalize w8.heap.size = P6 at *
            generalize w8.alloc (Obj.cells #[.int .i64 0, .int .i64 0, .string ⟨#[]⟩] 27) = w8 at *
            try simp only [List.getElem_toArray, List.getElem_cons_zero, List.getElem_cons_succ, Act.put, List.setIfInBounds_toArray, List.set_cons_zero, List.set_cons_succ]
            obtain ⟨z0, z1, z2, g0, g1, g2⟩ := id h5
            obtain ⟨y0, y1, y2, g3, g4, g5⟩ := id h6
            refine wpAnyL_ready (rs := [6]) (by kernel_rfl) (by simp) ?_
            refine AllReadyL.store (o := _) rfl (by decide) (by decide) (fun K hK => ?_) AllReadyL.nil
            go_simp
            refine hK.out _ _ ?_
            clear hK K
            try simp only [List.getElem_toArray, List.getElem_cons_zero, List.getElem_cons_succ, Act.put, List.setIfInBounds_toArray, List.set_cons_zero, List.set_cons_succ]
            refine wpAnyL_ready (rs := [7]) (by kernel_rfl) (by simp) ?_
            refine AllReadyL.store (o := _) rfl (by decide) (by decide) (fun K hK => ?_) AllReadyL.nil
            go_simp
            refine hK.out _ _ ?_
            clear hK K
            try simp only [List.getElem_toArray, List.getElem_cons_zero, List.getElem_cons_succ, Act.put, List.setIfInBounds_toArray, List.set_cons_zero, List.set_cons_succ]
            refine wpAnyL_done (by kernel_rfl) ?_ _
            go_wp2_with fail
            go_meet
            exact ⟨P5, P6, rfl, rfl, Lib.hid (four_of hHeld h5 h6 hl5 hl6 hne hA)⟩
        · go_simp
          have hba : Below w8.heap.size w8 (w8.alloc (Obj.cells #[.int .i64 0, .int .i64 0, .string ⟨#[]⟩] 27)) := (Below.refl _ _).alloc (Nat.le_refl _) _
          have h6 := One.new w8 27 (.int .i64 0) (.int .i64 0) (.string ⟨#[]⟩)
          have hl6 := hHeld.lts
          refine hK.out _ _ (hHeld.keep hba) (fun hHeld => ?_)
          clear hK K hba
          generalize w8.heap.size = P6 at *
          generalize w8.alloc (Obj.cells #[.int .i64 0, .int .i64 0, .string ⟨#[]⟩] 27) = w8 at *
          try simp only [List.getElem_toArray, List.getElem_cons_zero, List.getElem_cons_succ, Act.put, List.setIfInBounds_toArray, List.set_cons_zero, List.set_cons_succ]
          refine wpAnyL_ready (rs := [4]) (by kernel_rfl) (by simp) ?_
          refine AllReadyL.cons (o := _) rfl (fun K hK => ?_) AllReadyL.nil
          · go_simp
            have hba : Below w8.heap.size w8 (w8.alloc (Obj.cells #[.int .i64 0, .int .i64 0, .string ⟨#[]⟩] 27)) := (Below.refl _ _).alloc (Nat.le_refl _) _
            have h5 := One.new w8 27 (.int .i64 0) (.int .i64 0) (.string ⟨#[]⟩)
            have hl5 := hHeld.lts
            have hne : w8.heap.size ≠ P6 := Ne.symm (Nat.ne_of_lt h6.lt)
            have h6 := h6.keep hba
            refine hK.out _ _ (hHeld.keep hba) (fun hHeld => ?_)
            clear hK K hba
            generalize w8.heap.size = P5 at *
            generalize w8.alloc (Obj.cells #[.int .i64 0, .int .i64 0, .string ⟨#[]⟩] 27) = w8 at *
            try simp only [List.getElem_toArray, List.getElem_cons_zero, List.getElem_cons_succ, Act.put, List.setIfInBounds_toArray, List.set_cons_zero, List.set_cons_succ]
            obtain ⟨z0, z1, z2, g0, g1, g2⟩ := id h5
            obtain ⟨y0, y1, y2, g3, g4, g5⟩ := id h6
            refine wpAnyL_ready (rs := [6]) (by kernel_rfl) (by simp) ?_
            refine AllReadyL.store (o := _) rfl (by decide) (by decide) (fun K hK => ?_) AllReadyL.nil
            go_simp
            refine hK.out _ _ ?_
            clear hK K
            try simp only [List.getElem_toArray, List.getElem_cons_zero, List.getElem_cons_succ, Act.put, List.setIfInBounds_toArray, List.set_cons_zero, List.set_cons_succ]
            refine wpAnyL_ready (rs := [7]) (by kernel_rfl) (by simp) ?_
            refine AllReadyL.store (o := _) rfl (by decide) (by decide) (fun K hK => ?_) AllReadyL.nil
            go_simp
            refine hK.out _ _ ?_
            clear hK K
            try simp only [List.getElem_toArray, List.getElem_cons_zero, List.getElem_cons_succ, Act.put, List.setIfInBounds_toArray, List.set_cons_zero, List.set_cons_succ]
            refine wpAnyL_done (by kernel_rfl) ?_ _
            go_wp2_with fail
            go_meet
            exact ⟨P5, P6, rfl, rfl, Lib.hid (four_of hHeld h5 h6 hl5 hl6 hne hA)⟩
      · go_simp
        have hba : Below w8.heap.size w8 (w8.alloc (Obj.cells #[.int .i64 0, .int .i64 0, .string ⟨#[]⟩] 27)) := (Below.refl _ _).alloc (Nat.le_refl _) _
        have h5 := One.new w8 27 (.int .i64 0) (.int .i64 0) (.string ⟨#[]⟩)
        have hl5 := hHeld.lts
        refine hK.out _ _ (hHeld.keep hba) (fun hHeld => ?_)
        clear hK K hba
        generalize w8.heap.size = P5 at *
        generalize w8.alloc (Obj.cells #[.int .i64 0, .int .i64 0, .string ⟨#[]⟩] 27) = w8 at *
        try simp only [List.getElem_toArray, List.getElem_cons_zero, List.getElem_cons_succ, Act.put, List.setIfInBounds_toArray, List.set_cons_zero, List.set_cons_succ]
        refine wpAnyL_ready (rs := [3, 5]) (by kernel_rfl) (by simp) ?_
        refine AllReadyL.cons (o := _) rfl (fun K hK => ?_) (AllReadyL.cons (o := _) rfl (fun K hK => ?_) AllReadyL.nil)
        · go_simp
          refine (TO.out _ _ _ _).mono ?_
          rintro e w8 ⟨rfl, hb8⟩
          have h5 := h5.keep hb8
          refine hK.out _ _ (hHeld.keep hb8) (fun hHeld => ?_)
          clear hK K hb8
          try simp only [List.getElem_toArray, List.getElem_cons_zero, List.getElem_cons_succ, Act.put, List.setIfInBounds_toArray, List.set_cons_zero, List.set_cons_succ]
          refine wpAnyL_ready (rs := [5]) (by kernel_rfl) (by simp) ?_
          refine AllReadyL.cons (o := _) rfl (fun K hK => ?_) AllReadyL.nil
          · go_simp
            have hba : Below w8.heap.size w8 (w8.alloc (Obj.cells #[.int .i64 0, .int .i64 0, .string ⟨#[]⟩] 27)) := (Below.refl _ _).alloc (Nat.le_refl _) _
            have h6 := One.new w8 27 (.int .i64 0) (.int .i64 0) (.string ⟨#[]⟩)
            have hl6 := hHeld.lts
            have hne : P5 ≠ w8.heap.size := Nat.ne_of_lt h5.lt
            have h5 := h5.keep hba
            refine hK.out _ _ (hHeld.keep hba) (fun hHeld => ?_)
            clear hK K hba
            generalize w8.heap.size = P6 at *
            generalize w8.alloc (Obj.cells #[.int .i64 0, .int .i64 0, .string ⟨#[]⟩] 27) = w8 at *
            try simp only [List.getElem_toArray, List.getElem_cons_zero, List.getElem_cons_succ, Act.put, List.setIfInBounds_toArray, List.set_cons_zero, List.set_cons_succ]
            obtain ⟨z0, z1, z2, g0, g1, g2⟩ := id h5
            obtain ⟨y0, y1, y2, g3, g4, g5⟩ := id h6
            refine wpAnyL_ready (rs := [6]) (by kernel_rfl) (by simp) ?_
            refine AllReadyL.store (o := _) rfl (by decide) (by decide) (fun K hK => ?_) AllReadyL.nil
            go_simp
            refine hK.out _ _ ?_
            clear hK K
            try simp only [List.getElem_toArray, List.getElem_cons_zero, List.getElem_cons_succ, Act.put, List.setIfInBounds_toArray, List.set_cons_zero, List.set_cons_succ]
            refine wpAnyL_ready (rs := [7]) (by kernel_rfl) (by simp) ?_
            refine AllReadyL.store (o := _) rfl (by decide) (by decide) (fun K hK => ?_) AllReadyL.nil
            go_simp
            refine hK.out _ _ ?_
            clear hK K
            try simp only [List.getElem_toArray, List.getElem_cons_zero, List.getElem_cons_succ, Act.put, List.setIfInBounds_toArray, List.set_cons_zero, List.set_cons_succ]
            refine wpAnyL_done (by kernel_rfl) ?_ _
            go_wp2_with fail
            go_meet
            exact ⟨P5, P6, rfl, rfl, Lib.hid (four_of hHeld h5 h6 hl5 hl6 hne hA)⟩
        · go_simp
          have hba : Below w8.heap.size w8 (w8.alloc (Obj.cells #[.int .i64 0, .int .i64 0, .string ⟨#[]⟩] 27)) := (Below.refl _ _).alloc (Nat.le_refl _) _
          have h6 := One.new w8 27 (.int .i64 0) (.int .i64 0) (.string ⟨#[]⟩)
          have hl6 := hHeld.lts
          have hne : P5 ≠ w8.heap.size := Nat.ne_of_lt h5.lt
          have h5 := h5.keep hba
          refine hK.out _ _ (hHeld.keep hba) (fun hHeld => ?_)
          clear hK K hba
          generalize w8.heap.size = P6 at *
          generalize w8.alloc (Obj.cells #[.int .i64 0, .int .i64 0, .string ⟨#[]⟩] 27) = w8 at *
          try simp only [List.getElem_toArray, List.getElem_cons_zero, List.getElem_cons_succ, Act.put, List.setIfInBounds_toArray, List.set_cons_zero, List.set_cons_succ]
          refine wpAnyL_ready (rs := [3]) (by kernel_rfl) (by simp) ?_
          refine AllReadyL.cons (o := _) rfl (fun K hK => ?_) AllReadyL.nil
          · go_simp
            refine (TO.out _ _ _ _).mono ?_
            rintro e w8 ⟨rfl, hb8⟩
            have h5 := h5.keep hb8
            have h6 := h6.keep hb8
            refine hK.out _ _ (hHeld.keep hb8) (fun hHeld => ?_)
            clear hK K hb8
            try simp only [List.getElem_toArray, List.getElem_cons_zero, List.getElem_cons_succ, Act.put, List.setIfInBounds_toArray, List.set_cons_zero, List.set_cons_succ]
            obtain ⟨z0, z1, z2, g0, g1, g2⟩ := id h5
            obtain ⟨y0, y1, y2, g3, g4, g5⟩ := id h6
            refine wpAnyL_ready (rs := [6]) (by kernel_rfl) (by simp) ?_
            refine AllReadyL.store (o := _) rfl (by decide) (by decide) (fun K hK => ?_) AllReadyL.nil
            go_simp
            refine hK.out _ _ ?_
            clear hK K
            try simp only [List.getElem_toArray, List.getElem_cons_zero, List.getElem_cons_succ, Act.put, List.setIfInBounds_toArray, List.set_cons_zero, List.set_cons_succ]
            refine wpAnyL_ready (rs := [7]) (by kernel_rfl) (by simp) ?_
            refine AllReadyL.store (o := _) rfl (by decide) (by decide) (fun K hK => ?_) AllReadyL.nil
            go_simp
            refine hK.out _ _ ?_
            clear hK K
            try simp only [List.getElem_toArray, List.getElem_cons_zero, List.getElem_cons_succ, Act.put, List.setIfInBounds_toArray, List.set_cons_zero, List.set_cons_succ]
            refine wpAnyL_done (by kernel_rfl) ?_ _
            go_wp2_with fail
            go_meet
            exact ⟨P5, P6, rfl, rfl, Lib.hid (four_of hHeld h5 h6 hl5 hl6 hne hA)⟩
      · go_simp
        have hba : Below w8.heap.size w8 (w8.alloc (Obj.cells #[.int .i64 0, .int .i64 0, .string ⟨#[]⟩] 27)) := (Below.refl _ _).alloc (Nat.le_refl _) _
        have h6 := One.new w8 27 (.int .i64 0) (.int .i64 0) (.string ⟨#[]⟩)
        have hl6 := hHeld.lts
        refine hK.out _ _ (hHeld.keep hba) (fun hHeld => ?_)
        clear hK K hba
        generalize w8.heap.size = P6 at *
        generalize w8.alloc (Obj.cells #[.int .i64 0, .int .i64 0, .string ⟨#[]⟩] 27) = w8 at *
        try simp only [List.getElem_toArray, List.getElem_cons_zero, List.getElem_cons_succ, Act.put, List.setIfInBounds_toArray, List.set_cons_zero, List.set_cons_succ]
        refine wpAnyL_ready (rs := [3, 4]) (by kernel_rfl) (by simp) ?_
        refine AllReadyL.cons (o := _) rfl (fun K hK => ?_) (AllReadyL.cons (o := _) rfl (fun K hK => ?_) AllReadyL.nil)
        · go_simp
          refine (TO.out _ _ _ _).mono ?_
          rintro e w8 ⟨rfl, hb8⟩
          have h6 := h6.keep hb8
          refine hK.out _ _ (hHeld.keep hb8) (fun hHeld => ?_)
          clear hK K hb8
          try simp only [List.getElem_toArray, List.getElem_cons_zero, List.getElem_cons_succ, Act.put, List.setIfInBounds_toArray, List.set_cons_zero, List.set_cons_succ]
          refine wpAnyL_ready (rs := [4]) (by kernel_rfl) (by simp) ?_
          refine AllReadyL.cons (o := _) rfl (fun K hK => ?_) AllReadyL.nil
          · go_simp
            have hba : Below w8.heap.size w8 (w8.alloc (Obj.cells #[.int .i64 0, .int .i64 0, .string ⟨#[]⟩] 27)) := (Below.refl _ _).alloc (Nat.le_refl _) _
            have h5 := One.new w8 27 (.int .i64 0) (.int .i64 0) (.string ⟨#[]⟩)
            have hl5 := hHeld.lts
            have hne : w8.heap.size ≠ P6 := Ne.symm (Nat.ne_of_lt h6.lt)
            have h6 := h6.keep hba
            refine hK.out _ _ (hHeld.keep hba) (fun hHeld => ?_)
            clear hK K hba
            generalize w8.heap.size = P5 at *
            generalize w8.alloc (Obj.cells #[.int .i64 0, .int .i64 0, .string ⟨#[]⟩] 27) = w8 at *
            try simp only [List.getElem_toArray, List.getElem_cons_zero, List.getElem_cons_succ, Act.put, List.setIfInBounds_toArray, List.set_cons_zero, List.set_cons_succ]
            obtain ⟨z0, z1, z2, g0, g1, g2⟩ := id h5
            obtain ⟨y0, y1, y2, g3, g4, g5⟩ := id h6
            refine wpAnyL_ready (rs := [6]) (by kernel_rfl) (by simp) ?_
            refine AllReadyL.store (o := _) rfl (by decide) (by decide) (fun K hK => ?_) AllReadyL.nil
            go_simp
            refine hK.out _ _ ?_
            clear hK K
            try simp only [List.getElem_toArray, List.getElem_cons_zero, List.getElem_cons_succ, Act.put, List.setIfInBounds_toArray, List.set_cons_zero, List.set_cons_succ]
            refine wpAnyL_ready (rs := [7]) (by kernel_rfl) (by simp) ?_
            refine AllReadyL.store (o := _) rfl (by decide) (by decide) (fun K hK => ?_) AllReadyL.nil
            go_simp
            refine hK.out _ _ ?_
            clear hK K
            try simp only [List.getElem_toArray, List.getElem_cons_zero, List.getElem_cons_succ, Act.put, List.setIfInBounds_toArray, List.set_cons_zero, List.set_cons_succ]
            refine wpAnyL_done (by kernel_rfl) ?_ _
            go_wp2_with fail
            go_meet
            exact ⟨P5, P6, rfl, rfl, Lib.hid (four_of hHeld h5 h6 hl5 hl6 hne hA)⟩
        · go_simp
          have hba : Below w8.heap.size w8 (w8.alloc (Obj.cells #[.int .i64 0, .int .i64 0, .string ⟨#[]⟩] 27)) := (Below.refl _ _).alloc (Nat.le_refl _) _
          have h5 := One.new w8 27 (.int .i64 0) (.int .i64 0) (.string ⟨#[]⟩)
          have hl5 := hHeld.lts
          have hne : w8.heap.size ≠ P6 := Ne.symm (Nat.ne_of_lt h6.lt)
          have h6 := h6.keep hba
          refine hK.out _ _ (hHeld.keep hba) (fun hHeld => ?_)
          clear hK K hba
          generalize w8.heap.size = P5 at *
          generalize w8.alloc (Obj.cells #[.int .i64 0, .int .i64 0, .string ⟨#[]⟩] 27) = w8 at *
          try simp only [List.getElem_toArray, List.getElem_cons_zero, List.getElem_cons_succ, Act.put, List.setIfInBounds_toArray, List.set_cons_zero, List.set_cons_succ]
          refine wpAnyL_ready (rs := [3]) (by kernel_rfl) (by simp) ?_
          refine AllReadyL.cons (o := _) rfl (fun K hK => ?_) AllReadyL.nil
          · go_simp
            refine (TO.out _ _ _ _).mono ?_
            rintro e w8 ⟨rfl, hb8⟩
            have h5 := h5.keep hb8
            have h6 := h6.keep hb8
            refine hK.out _ _ (hHeld.keep hb8) (fun hHeld => ?_)
            clear hK K hb8
            try simp only [List.getElem_toArray, List.getElem_cons_zero, List.getElem_cons_succ, Act.put, List.setIfInBounds_toArray, List.set_cons_zero, List.set_cons_succ]
            obtain ⟨z0, z1, z2, g0, g1, g2⟩ := id h5
            obtain ⟨y0, y1, y2, g3, g4, g5⟩ := id h6
            refine wpAnyL_ready (rs := [6]) (by kernel_rfl) (by simp) ?_
            refine AllReadyL.store (o := _) rfl (by decide) (by decide) (fun K hK => ?_) AllReadyL.nil
            go_simp
            refine hK.out _ _ ?_
            clear hK K
            try simp only [List.getElem_toArray, List.getElem_cons_zero, List.getElem_cons_succ, Act.put, List.setIfInBounds_toArray, List.set_cons_zero, List.set_cons_succ]
            refine wpAnyL_ready (rs := [7]) (by kernel_rfl) (by simp) ?_
            refine AllReadyL.store (o := _) rfl (by decide) (by decide) (fun K hK => ?_) AllReadyL.nil
            go_simp
            refine hK.out _ _ ?_
            clear hK K
            try simp only [List.getElem_toArray, List.getElem_cons_zero, List.getElem_cons_succ, Act.put, List.setIfInBounds_toArray, List.set_cons_zero, List.set_cons_succ]
            refine wpAnyL_done (by kernel_rfl) ?_ _
            go_wp2_with fail
            go_meet
            exact ⟨P5, P6, rfl, rfl, Lib.hid (four_of hHeld h5 h6 hl5 hl6 hne hA)⟩
    · go_simp
      have hba : Below w8.heap.size w8 (w8.alloc (Obj.cells #[.int .i64 0, .int .i64 0, .string ⟨#[]⟩] 27)) := (Below.refl _ _).alloc (Nat.le_refl _) _
      have h5 := One.new w8 27 (.int .i64 0) (.int .i64 0) (.string ⟨#[]⟩)
      have hl5 := hHeld.lts
      refine hK.out _ _ (hHeld.keep hba) (fun hHeld => ?_)
      clear hK K hba
      generalize w8.heap.size = P5 at *
      generalize w8.alloc (Obj.cells #[.int .i64 0, .int .i64 0, .string ⟨#[]⟩] 27) = w8 at *
      try simp only [List.getElem_toArray, List.getElem_cons_zero, List.getElem_cons_succ, Act.put, List.setIfInBounds_toArray, List.set_cons_zero, List.set_cons_succ]
      refine wpAnyL_ready (rs := [1, 5]) (by kernel_rfl) (by simp) ?_
      refine AllReadyL.cons (o := _) rfl (fun K hK => ?_) (AllReadyL.cons (o := _) rfl (fun K hK => ?_) AllReadyL.nil)
      · go_simp
        refine (TO.out _ _ _ _).mono ?_
        rintro e w8 ⟨rfl, hb8⟩
        have h5 := h5.keep hb8
        refine hK.out _ _ (hHeld.keep hb8) (fun hHeld => ?_)
        clear hK K hb8
        try simp only [List.getElem_toArray, List.getElem_cons_zero, List.getElem_cons_succ, Act.put, List.setIfInBounds_toArray, List.set_cons_zero, List.set_cons_succ]
        refine wpAnyL_ready (rs := [3, 5]) (by kernel_rfl) (by simp) ?_
        refine AllReadyL.cons (o := _) rfl (fun K hK => ?_) (AllReadyL.cons (o := _) rfl (fun K hK => ?_) AllReadyL.nil)
        · go_simp
          refine (TO.out _ _ _ _).mono ?_
          rintro e w8 ⟨rfl, hb8⟩
          have h5 := h5.keep hb8
          refine hK.out _ _ (hHeld.keep hb8) (fun hHeld => ?_)
          clear hK K hb8
          try simp only [List.getElem_toArray, List.getElem_cons_zero, List.getElem_cons_succ, Act.put, List.setIfInBounds_toArray, List.set_cons_zero, List.set_cons_succ]
          refine wpAnyL_ready (rs := [5]) (by kernel_rfl) (by simp) ?_
          refine AllReadyL.cons (o := _) rfl (fun K hK => ?_) AllReadyL.nil
          · go_simp
            have hba : Below w8.heap.size w8 (w8.alloc (Obj.cells #[.int .i64 0, .int .i64 0, .string ⟨#[]⟩] 27)) := (Below.refl _ _).alloc (Nat.le_refl _) _
            have h6 := One.new w8 27 (.int .i64 0) (.int .i64 0) (.string ⟨#[]⟩)
            have hl6 := hHeld.lts
            have hne : P5 ≠ w8.heap.size := Nat.ne_of_lt h5.lt
            have h5 := h5.keep hba
            refine hK.out _ _ (hHeld.keep hba) (fun hHeld => ?_)
            clear hK K hba
            generalize w8.heap.size = P6 at *
            generalize w8.alloc (Obj.cells #[.int .i64 0, .int .i64 0, .string ⟨#[]⟩] 27) = w8 at *
            try simp only [List.getElem_toArray, List.getElem_cons_zero, List.getElem_cons_succ, Act.put, List.setIfInBounds_toArray, List.set_cons_zero, List.set_cons_succ]
            obtain ⟨z0, z1, z2, g0, g1, g2⟩ := id h5
            obtain ⟨y0, y1, y2, g3, g4, g5⟩ := id h6
            refine wpAnyL_ready (rs := [6]) (by kernel_rfl) (by simp) ?_
            refine AllReadyL.store (o := _) rfl (by decide) (by decide) (fun K hK => ?_) AllReadyL.nil
            go_simp
            refine hK.out _ _ ?_
            clear hK K
            try simp only [List.getElem_toArray, List.getElem_cons_zero, List.getElem_cons_succ, Act.put, List.setIfInBounds_toArray, List.set_cons_zero, List.set_cons_succ]
            refine wpAnyL_ready (rs := [7]) (by kernel_rfl) (by simp) ?_
            refine AllReadyL.store (o := _) rfl (by decide) (by decide) (fun K hK => ?_) AllReadyL.nil
            go_simp
            refine hK.out _ _ ?_
            clear hK K
            try simp only [List.getElem_toArray, List.getElem_cons_zero, List.getElem_cons_succ, Act.put, List.setIfInBounds_toArray, List.set_cons_zero, List.set_cons_succ]
            refine wpAnyL_done (by kernel_rfl) ?_ _
            go_wp2_with fail
            go_meet
            exact ⟨P5, P6, rfl, rfl, Lib.hid (four_of hHeld h5 h6 hl5 hl6 hne hA)⟩
        · go_simp
          have hba : Below w8.heap.size w8 (w8.alloc (Obj.cells #[.int .i64 0, .int .i64 0, .string ⟨#[]⟩] 27)) := (Below.refl _ _).alloc (Nat.le_refl _) _
          have h6 := One.new w8 27 (.int .i64 0) (.int .i64 0) (.string ⟨#[]⟩)
          have hl6 := hHeld.lts
          have hne : P5 ≠ w8.heap.size := Nat.ne_of_lt h5.lt
          have h5 := h5.keep hba
          refine hK.out _ _ (hHeld.keep hba) (fun hHeld => ?_)
          clear hK K hba
          generalize w8.heap.size = P6 at *
          generalize w8.alloc (Obj.cells #[.int .i64 0, .int .i64 0, .string ⟨#[]⟩] 27) = w8 at *
          try simp only [List.getElem_toArray, List.getElem_cons_zero, List.getElem_cons_succ, Act.put, List.setIfInBounds_toArray, List.set_cons_zero, List.set_cons_succ]
          refine wpAnyL_ready (rs := [3]) (by kernel_rfl) (by simp) ?_
          refine AllReadyL.cons (o := _) rfl (fun K hK => ?_) AllReadyL.nil
          · go_simp
            refine (TO.out _ _ _ _).mono ?_
            rintro e w8 ⟨rfl, hb8⟩
            have h5 := h5.keep hb8
            have h6 := h6.keep hb8
            refine hK.out _ _ (hHeld.keep hb8) (fun hHeld => ?_)
            clear hK K hb8
            try simp only [List.getElem_toArray, List.getElem_cons_zero, List.getElem_cons_succ, Act.put, List.setIfInBounds_toArray, List.set_cons_zero, List.set_cons_succ]
            obtain ⟨z0, z1, z2, g0, g1, g2⟩ := id h5
            obtain ⟨y0, y1, y2, g3, g4, g5⟩ := id h6
            refine wpAnyL_ready (rs := [6]) (by kernel_rfl) (by simp) ?_
            refine AllReadyL.store (o := _) rfl (by decide) (by decide) (fun K hK => ?_) AllReadyL.nil
            go_simp
            refine hK.out _ _ ?_
            clear hK K
            try simp only [List.getElem_toArray, List.getElem_cons_zero, List.getElem_cons_succ, Act.put, List.setIfInBounds_toArray, List.set_cons_zero, List.set_cons_succ]
            refine wpAnyL_ready (rs := [7]) (by kernel_rfl) (by simp) ?_
            refine AllReadyL.store (o := _) rfl (by decide) (by decide) (fun K hK => ?_) AllReadyL.nil
            go_simp
            refine hK.out _ _ ?_
            clear hK K
            try simp only [List.getElem_toArray, List.getElem_cons_zero, List.getElem_cons_succ, Act.put, List.setIfInBounds_toArray, List.set_cons_zero, List.set_cons_succ]
            refine wpAnyL_done (by kernel_rfl) ?_ _
            go_wp2_with fail
            go_meet
            exact ⟨P5, P6, rfl, rfl, Lib.hid (four_of hHeld h5 h6 hl5 hl6 hne hA)⟩
      · go_simp
        have hba : Below w8.heap.size w8 (w8.alloc (Obj.cells #[.int .i64 0, .int .i64 0, .string ⟨#[]⟩] 27)) := (Below.refl _ _).alloc (Nat.le_refl _) _
        have h6 := One.new w8 27 (.int .i64 0) (.int .i64 0) (.string ⟨#[]⟩)
        have hl6 := hHeld.lts
        have hne : P5 ≠ w8.heap.size := Nat.ne_of_lt h5.lt
        have h5 := h5.keep hba
        refine hK.out _ _ (hHeld.keep hba) (fun hHeld => ?_)
        clear hK K hba
        generalize w8.heap.size = P6 at *
        generalize w8.alloc (Obj.cells #[.int .i64 0, .int .i64 0, .string ⟨#[]⟩] 27) = w8 at *
        try simp only [List.getElem_toArray, List.getElem_cons_zero, List.getElem_cons_succ, Act.put, List.setIfInBounds_toArray, List.set_cons_zero, List.set_cons_succ]
        refine wpAnyL_ready (rs := [1]) (by kernel_rfl) (by simp) ?_
        refine AllReadyL.cons (o := _) rfl (fun K hK => ?_) AllReadyL.nil
        · go_simp
          refine (TO.out _ _ _ _).mono ?_
          rintro e w8 ⟨rfl, hb8⟩
          have h5 := h5.keep hb8
          have h6 := h6.keep hb8
          refine hK.out _ _ (hHeld.keep hb8) (fun hHeld => ?_)
          clear hK K hb8
          try simp only [List.getElem_toArray, List.getElem_cons_zero, List.getElem_cons_succ, Act.put, List.setIfInBounds_toArray, List.set_cons_zero, List.set_cons_succ]
          refine wpAnyL_ready (rs := [3]) (by kernel_rfl) (by simp) ?_
          refine AllReadyL.cons (o := _) rfl (fun K hK => ?_) AllReadyL.nil
          · go_simp
            refine (TO.out _ _ _ _).mono ?_
            rintro e w8 ⟨rfl, hb8⟩
            have h5 := h5.keep hb8
            have h6 := h6.keep hb8
            refine hK.out _ _ (hHeld.keep hb8) (fun hHeld => ?_)
            clear hK K hb8
            try simp only [List.getElem_toArray, List.getElem_cons_zero, List.getElem_cons_succ, Act.put, List.setIfInBounds_toArray, List.set_cons_zero, List.set_cons_succ]
            obtain ⟨z0, z1, z2, g0, g1, g2⟩ := id h5
            obtain ⟨y0, y1, y2, g3, g4, g5⟩ := id h6
            refine wpAnyL_ready (rs := [6]) (by kernel_rfl) (by simp) ?_
            refine AllReadyL.store (o := _) rfl (by decide) (by decide) (fun K hK => ?_) AllReadyL.nil
            go_simp
            refine hK.out _ _ ?_
            clear hK K
            try simp only [List.getElem_toArray, List.getElem_cons_zero, List.getElem_cons_succ, Act.put, List.setIfInBounds_toArray, List.set_cons_zero, List.set_cons_succ]
            refine wpAnyL_ready (rs := [7]) (by kernel_rfl) (by simp) ?_
            refine AllReadyL.store (o := _) rfl (by decide) (by decide) (fun K hK => ?_) AllReadyL.nil
            go_simp
            refine hK.out _ _ ?_
            clear hK K
            try simp only [List.getElem_toArray, List.getElem_cons_zero, List.getElem_cons_succ, Act.put, List.setIfInBounds_toArray, List.set_cons_zero, List.set_cons_succ]
            refine wpAnyL_done (by kernel_rfl) ?_ _
            go_wp2_with fail
            go_meet
            exact ⟨P5, P6, rfl, rfl, Lib.hid (four_of hHeld h5 h6 hl5 hl6 hne hA)⟩
    · go_simp
      have hba : Below w8.heap.size w8 (w8.alloc (Obj.cells #[.int .i64 0, .int .i64 0, .string ⟨#[]⟩] 27)) := (Below.refl _ _).alloc (Nat.le_refl _) _
      have h6 := One.new w8 27 (.int .i64 0) (.int .i64 0) (.string ⟨#[]⟩)
      have hl6 := hHeld.lts
      refine hK.out _ _ (hHeld.keep hba) (fun hHeld => ?_)
      clear hK K hba
      generalize w8.heap.size = P6 at *
      generalize w8.alloc (Obj.cells #[.int .i64 0, .int .i64 0, .string ⟨#[]⟩] 27) = w8 at *
      try simp only [List.getElem_toArray, List.getElem_cons_zero, List.getElem_cons_succ, Act.put, List.setIfInBounds_toArray, List.set_cons_zero, List.set_cons_succ]
      refine wpAnyL_ready (rs := [1, 4]) (by kernel_rfl) (by simp) ?_
      refine AllReadyL.cons (o := _) rfl (fun K hK => ?_) (AllReadyL.cons (o := _) rfl (fun K hK => ?_) AllReadyL.nil)
      · go_simp
        refine (TO.out _ _ _ _).mono ?_
        rintro e w8 ⟨rfl, hb8⟩
        have h6 := h6.keep hb8
        refine hK.out _ _ (hHeld.keep hb8) (fun hHeld => ?_)
        clear hK K hb8
        try simp only [List.getElem_toArray, List.getElem_cons_zero, List.getElem_cons_succ, Act.put, List.setIfInBounds_toArray, List.set_cons_zero, List.set_cons_succ]
        refine wpAnyL_ready (rs := [3, 4]) (by kernel_rfl) (by simp) ?_
        refine AllReadyL.cons (o := _) rfl (fun K hK => ?_) (AllReadyL.cons (o := _) rfl (fun K hK => ?_) AllReadyL.nil)
        · go_simp
          refine (TO.out _ _ _ _).mono ?_
          rintro e w8 ⟨rfl, hb8⟩
          have h6 := h6.keep hb8
          refine hK.out _ _ (hHeld.keep hb8) (fun hHeld => ?_)
          clear hK K hb8
          try simp only [List.getElem_toArray, List.getElem_cons_zero, List.getElem_cons_succ, Act.put, List.setIfInBounds_toArray, List.set_cons_zero, List.set_cons_succ]
          refine wpAnyL_ready (rs := [4]) (by kernel_rfl) (by simp) ?_
          refine AllReadyL.cons (o := _) rfl (fun K hK => ?_) AllReadyL.nil
          · go_simp
            have hba : Below w8.heap.size w8 (w8.alloc (Obj.cells #[.int .i64 0, .int .i64 0, .string ⟨#[]⟩] 27)) := (Below.refl _ _).alloc (Nat.le_refl _) _
            have h5 := One.new w8 27 (.int .i64 0) (.int .i64 0) (.string ⟨#[]⟩)
            have hl5 := hHeld.lts
            have hne : w8.heap.size ≠ P6 := Ne.symm (Nat.ne_of_lt h6.lt)
            have h6 := h6.keep hba
            refine hK.out _ _ (hHeld.keep hba) (fun hHeld => ?_)
            clear hK K hba
            generalize w8.heap.size = P5 at *
            generalize w8.alloc (Obj.cells #[.int .i64 0, .int .i64 0, .string ⟨#[]⟩] 27) = w8 at *
            try simp only [List.getElem_toArray, List.getElem_cons_zero, List.getElem_cons_succ, Act.put, List.setIfInBounds_toArray, List.set_cons_zero, List.set_cons_succ]
            obtain ⟨z0, z1, z2, g0, g1, g2⟩ := id h5
            obtain ⟨y0, y1, y2, g3, g4, g5⟩ := id h6
            refine wpAnyL_ready (rs := [6]) (by kernel_rfl) (by simp) ?_
            refine AllReadyL.store (o := _) rfl (by decide) (by decide) (fun K hK => ?_) AllReadyL.nil
            go_simp
            refine hK.out _ _ ?_
            clear hK K
            try simp only [List.getElem_toArray, List.getElem_cons_zero, List.getElem_cons_succ, Act.put, List.setIfInBounds_toArray, List.set_cons_zero, List.set_cons_succ]
            refine wpAnyL_ready (rs := [7]) (by kernel_rfl) (by simp) ?_
            refine AllReadyL.store (o := _) rfl (by decide) (by decide) (fun K hK => ?_) AllReadyL.nil
            go_simp
            refine hK.out _ _ ?_
            clear hK K
            try simp only [List.getElem_toArray, List.getElem_cons_zero, List.getElem_cons_succ, Act.put, List.setIfInBounds_toArray, List.set_cons_zero, List.set_cons_succ]
            refine wpAnyL_done (by kernel_rfl) ?_ _
            go_wp2_with fail
            go_meet
            exact ⟨P5, P6, rfl, rfl, Lib.hid (four_of hHeld h5 h6 hl5 hl6 hne hA)⟩
        · go_simp
          have hba : Below w8.heap.size w8 (w8.alloc (Obj.cells #[.int .i64 0, .int .i64 0, .string ⟨#[]⟩] 27)) := (Below.refl _ _).alloc (Nat.le_refl _) _
          have h5 := One.new w8 27 (.int .i64 0) (.int .i64 0) (.string ⟨#[]⟩)
          have hl5 := hHeld.lts
          have hne : w8.heap.size ≠ P6 := Ne.symm (Nat.ne_of_lt h6.lt)
          have h6 := h6.keep hba
          refine hK.out _ _ (hHeld.keep hba) (fun hHeld => ?_)
          clear hK K hba
          generalize w8.heap.size = P5 at *
          generalize w8.alloc (Obj.cells #[.int .i64 0, .int .i64 0, .string ⟨#[]⟩] 27) = w8 at *
          try simp only [List.getElem_toArray, List.getElem_cons_zero, List.getElem_cons_succ, Act.put, List.setIfInBounds_toArray, List.set_cons_zero, List.set_cons_succ]
          refine wpAnyL_ready (rs := [3]) (by kernel_rfl) (by simp) ?_
          refine AllReadyL.cons (o := _) rfl (fun K hK => ?_) AllReadyL.nil
          · go_simp
            refine (TO.out _ _ _ _).mono ?_
            rintro e w8 ⟨rfl, hb8⟩
            have h5 := h5.keep hb8
            have h6 := h6.keep hb8
            refine hK.out _ _ (hHeld.keep hb8) (fun hHeld => ?_)
            clear hK K hb8
            try simp only [List.getElem_toArray, List.getElem_cons_zero, List.getElem_cons_succ, Act.put, List.setIfInBounds_toArray, List.set_cons_zero, List.set_cons_succ]
            obtain ⟨z0, z1, z2, g0, g1, g2⟩ := id h5
            obtain ⟨y0, y1, y2, g3, g4, g5⟩ := id h6
            refine wpAnyL_ready (rs := [6]) (by kernel_rfl) (by simp) ?_
            refine AllReadyL.store (o := _) rfl (by decide) (by decide) (fun K hK => ?_) AllReadyL.nil
            go_simp
            refine hK.out _ _ ?_
            clear hK K
            try simp only [List.getElem_toArray, List.getElem_cons_zero, List.getElem_cons_succ, Act.put, List.setIfInBounds_toArray, List.set_cons_zero, List.set_cons_succ]
            refine wpAnyL_ready (rs := [7]) (by kernel_rfl) (by simp) ?_
            refine AllReadyL.store (o := _) rfl (by decide) (by decide) (fun K hK => ?_) AllReadyL.nil
            go_simp
            refine hK.out _ _ ?_
            clear hK K
            try simp only [List.getElem_toArray, List.getElem_cons_zero, List.getElem_cons_succ, Act.put, List.setIfInBounds_toArray, List.set_cons_zero, List.set_cons_succ]
            refine wpAnyL_done (by kernel_rfl) ?_ _
            go_wp2_with fail
            go_meet
            exact ⟨P5, P6, rfl, rfl, Lib.hid (four_of hHeld h5 h6 hl5 hl6 hne hA)⟩
      · go_simp
        have hba : Below w8.heap.size w8 (w8.alloc (Obj.cells #[.int .i64 0, .int .i64 0, .string ⟨#[]⟩] 27)) := (Below.refl _ _).alloc (Nat.le_refl _) _
        have h5 := One.new w8 27 (.int .i64 0) (.int .i64 0) (.string ⟨#[]⟩)
        have hl5 := hHeld.lts
        have hne : w8.heap.size ≠ P6 := Ne.symm (Nat.ne_of_lt h6.lt)
        have h6 := h6.keep hba
        refine hK.out _ _ (hHeld.keep hba) (fun hHeld => ?_)
        clear hK K hba
        generalize w8.heap.size = P5 at *
        generalize w8.alloc (Obj.cells #[.int .i64 0, .int .i64 0, .string ⟨#[]⟩] 27) = w8 at *
        try simp only [List.getElem_toArray, List.getElem_cons_zero, List.getElem_cons_succ, Act.put, List.setIfInBounds_toArray, List.set_cons_zero, List.set_cons_succ]
        refine wpAnyL_ready (rs := [1]) (by kernel_rfl) (by simp) ?_
        refine AllReadyL.cons (o := _) rfl (fun K hK => ?_) AllReadyL.nil
        · go_simp
          refine (TO.out _ _ _ _).mono ?_
          rintro e w8 ⟨rfl, hb8⟩
          have h5 := h5.keep hb8
          have h6 := h6.keep hb8
          refine hK.out _ _ (hHeld.keep hb8) (fun hHeld => ?_)
          clear hK K hb8
          try simp only [List.getElem_toArray, List.getElem_cons_zero, List.getElem_cons_succ, Act.put, List.setIfInBounds_toArray, List.set_cons_zero, List.set_cons_succ]
          refine wpAnyL_ready (rs := [3]) (by kernel_rfl) (by simp) ?_
          refine AllReadyL.cons (o := _) rfl (fun K hK => ?_) AllReadyL.nil
          · go_simp
            refine (TO.out _ _ _ _).mono ?_
            rintro e w8 ⟨rfl, hb8⟩
            have h5 := h5.keep hb8
            have h6 := h6.keep hb8
            refine hK.out _ _ (hHeld.keep hb8) (fun hHeld => ?_)
            clear hK K hb8
            try simp only [List.getElem_toArray, List.getElem_cons_zero, List.getElem_cons_succ, Act.put, List.setIfInBounds_toArray, List.set_cons_zero, List.set_cons_succ]
            obtain ⟨z0, z1, z2, g0, g1, g2⟩ := id h5
            obtain ⟨y0, y1, y2, g3, g4, g5⟩ := id h6
            refine wpAnyL_ready (rs := [6]) (by kernel_rfl) (by simp) ?_
            refine AllReadyL.store (o := _) rfl (by decide) (by decide) (fun K hK => ?_) AllReadyL.nil
            go_simp
            refine hK.out _ _ ?_
            clear hK K
            try simp only [List.getElem_toArray, List.getElem_cons_zero, List.getElem_cons_succ, Act.put, List.setIfInBounds_toArray, List.set_cons_zero, List.set_cons_succ]
            refine wpAnyL_ready (rs := [7]) (by kernel_rfl) (by simp) ?_
            refine AllReadyL.store (o := _) rfl (by decide) (by decide) (fun K hK => ?_) AllReadyL.nil
            go_simp
            refine hK.out _ _ ?_
            clear hK K
            try simp only [List.getElem_toArray, List.getElem_cons_zero, List.getElem_cons_succ, Act.put, List.setIfInBounds_toArray, List.set_cons_zero, List.set_cons_succ]
            refine wpAnyL_done (by kernel_rfl) ?_ _
            go_wp2_with fail
            go_meet
            exact ⟨P5, P6, rfl, rfl, Lib.hid (four_of hHeld h5 h6 hl5 hl6 hne hA)⟩
  case rest =>
    obtain ⟨P, Q, rfl, rfl, hF⟩ := hcut
    have hs : wc.cell? ⟨A, 0, none⟩ = some (.int .i64 k1) ∧ wc.cell? ⟨A, 1, none⟩ = some (.int .i64 n1) ∧ wc.cell? ⟨A, 2, none⟩ = some (.string s1) ∧ wc.cell? ⟨B, 0, none⟩ = some (.int .i64 k2) ∧ wc.cell? ⟨B, 1, none⟩ = some (.int .i64 n2) ∧ wc.cell? ⟨B, 2, none⟩ = some (.string s2) ∧ wc.cell? ⟨P, 0, none⟩ = some (.int .i64 k1) ∧ wc.cell? ⟨P, 1, none⟩ = some (.int .i64 n1) ∧ wc.cell? ⟨P, 2, none⟩ = some (.string s1) ∧ wc.cell? ⟨Q, 0, none⟩ = some (.int .i64 k2) ∧ wc.cell? ⟨Q, 1, none⟩ = some (.int .i64 n2) ∧ wc.cell? ⟨Q, 2, none⟩ = some (.string s2) ∧ Below w.heap.size w wc := hF.out
    clear hF TO C1 C2 hA hB hAB HS
    go_wp2_with fail
    cases g1 <;> cases g2
    all_goals
      go_region_held3 (fun w' => w'.cell? ⟨A, 0, none⟩ = some (.int .i64 k1) ∧ w'.cell? ⟨A, 1, none⟩ = some (.int .i64 n1) ∧ w'.cell? ⟨A, 2, none⟩ = some (.string s1) ∧ w'.cell? ⟨B, 0, none⟩ = some (.int .i64 k2) ∧ w'.cell? ⟨B, 1, none⟩ = some (.int .i64 n2) ∧ w'.cell? ⟨B, 2, none⟩ = some (.string s2) ∧ w'.cell? ⟨P, 0, none⟩ = some (.int .i64 k1) ∧ w'.cell? ⟨P, 1, none⟩ = some (.int .i64 n1) ∧ w'.cell? ⟨P, 2, none⟩ = some (.string s1) ∧ w'.cell? ⟨Q, 0, none⟩ = some (.int .i64 k2) ∧ w'.cell? ⟨Q, 1, none⟩ = some (.int .i64 n2) ∧ w'.cell? ⟨Q, 2, none⟩ = some (.string s2) ∧ Below w.heap.size w w') (first | assumption | exact draw13 (by assumption) | go_keep) (first
          | ((with_reducible refine (AW.out _ (HG.out.next (below13 (by assumption)))).mono ?_); rintro e w8 ⟨rfl, hb8⟩; have k8 := keep13 (by assumption) hb8)
          | ((with_reducible refine (G1.out _).mono ?_); rintro e w8 ⟨rfl, hb8⟩; have k8 := keep13 (by assumption) hb8)
          | ((with_reducible refine (R1.out _).mono ?_); rintro e w8 ⟨rfl, hb8⟩; have k8 := keep13 (by assumption) hb8)
          | ((with_reducible refine (G2.out _).mono ?_); rintro e w8 ⟨rfl, hb8⟩; have k8 := keep13 (by assumption) hb8)
          | ((with_reducible refine (R2.out _).mono ?_); rintro e w8 ⟨rfl, hb8⟩; have k8 := keep13 (by assumption) hb8))
    all_goals
      have HF : Hid (w8.cell? ⟨A, 0, none⟩ = some (.int .i64 k1) ∧ w8.cell? ⟨A, 1, none⟩ = some (.int .i64 n1) ∧ w8.cell? ⟨A, 2, none⟩ = some (.string s1) ∧ w8.cell? ⟨B, 0, none⟩ = some (.int .i64 k2) ∧ w8.cell? ⟨B, 1, none⟩ = some (.int .i64 n2) ∧ w8.cell? ⟨B, 2, none⟩ = some (.string s2) ∧ w8.cell? ⟨P, 0, none⟩ = some (.int .i64 k1) ∧ w8.cell? ⟨P, 1, none⟩ = some (.int .i64 n1) ∧ w8.cell? ⟨P, 2, none⟩ = some (.string s1) ∧ w8.cell? ⟨Q, 0, none⟩ = some (.int .i64 k2) ∧ w8.cell? ⟨Q, 1, none⟩ = some (.int .i64 n2) ∧ w8.cell? ⟨Q, 2, none⟩ = some (.string s2) ∧ Below w.heap.size w w8) := Lib.hid (by assumption)
      obtain ⟨q1, q2, q3, q4, q5, q6, q7, q8, q9, q10, q11, q12, _⟩ := id HF.out
      go_wp2_with fail
      refine (R1.out _).mono ?_
      rintro e w9 ⟨rfl, hb9⟩
      have HF := Lib.hid (keep13 HF.out hb9)
      clear q1 q2 q3 q4 q5 q6 q7 q8 q9 q10 q11 q12 hb9
      obtain ⟨q1, q2, q3, q4, q5, q6, q7, q8, q9, q10, q11, q12, _⟩ := id HF.out
    iterate 2
      · go_wp2_with fail
        go_ret
        exact ⟨rfl, below13 HF.out⟩
    all_goals
      go_wp2_with fail
      refine (R2.out _).mono ?_
      rintro e w10 ⟨rfl, hb10⟩
      have HF := Lib.hid (keep13 HF.out hb10)
      clear q1 q2 q3 q4 q5 q6 q7 q8 q9 q10 q11 q12 hb10
    · obtain ⟨q1, q2, q3, q4, q5, q6, q7, q8, q9, q10, q11, q12, _⟩ := id HF.out
      go_wp2_with fail
      go_ret
      exact ⟨rfl, below13 HF.out⟩
    have hs : w10.cell? ⟨A, 0, none⟩ = some (.int .i64 k1) ∧ w10.cell? ⟨A, 1, none⟩ = some (.int .i64 n1) ∧ w10.cell? ⟨A, 2, none⟩ = some (.string s1) ∧ w10.cell? ⟨B, 0, none⟩ = some (.int .i64 k2) ∧ w10.cell? ⟨B, 1, none⟩ = some (.int .i64 n2) ∧ w10.cell? ⟨B, 2, none⟩ = some (.string s2) ∧ w10.cell? ⟨P, 0, none⟩ = some (.int .i64 k1) ∧ w10.cell? ⟨P, 1, none⟩ = some (.int .i64 n1) ∧ w10.cell? ⟨P, 2, none⟩ = some (.string s1) ∧ w10.cell? ⟨Q, 0, none⟩ = some (.int .i64 k2) ∧ w10.cell? ⟨Q, 1, none⟩ = some (.int .i64 n2) ∧ w10.cell? ⟨Q, 2, none⟩ = some (.string s2) ∧ Below w.heap.size w w10 := HF.out
    have N1 := N1 rfl
    have N2 := N2 rfl
    have S1 := S1 rfl
    have S2 := S2 rfl
    have U1 := U1 rfl
    have U2 := U2 rfl
    have P1 := P1 rfl
    have P2 := P2 rfl
    clear HF AW G1 G2 R1 R2
    go_wp2_with fail
    go_region_held3 (fun w' => w'.cell? ⟨A, 0, none⟩ = some (.int .i64 k1) ∧ w'.cell? ⟨A, 1, none⟩ = some (.int .i64 n1) ∧ w'.cell? ⟨A, 2, none⟩ = some (.string s1) ∧ w'.cell? ⟨B, 0, none⟩ = some (.int .i64 k2) ∧ w'.cell? ⟨B, 1, none⟩ = some (.int .i64 n2) ∧ w'.cell? ⟨B, 2, none⟩ = some (.string s2) ∧ w'.cell? ⟨P, 0, none⟩ = some (.int .i64 k1) ∧ w'.cell? ⟨P, 1, none⟩ = some (.int .i64 n1) ∧ w'.cell? ⟨P, 2, none⟩ = some (.string s1) ∧ w'.cell? ⟨Q, 0, none⟩ = some (.int .i64 k2) ∧ w'.cell? ⟨Q, 1, none⟩ = some (.int .i64 n2) ∧ w'.cell? ⟨Q, 2, none⟩ = some (.string s2) ∧ Below w.heap.size w w') (first | assumption | exact draw13 (by assumption) | go_keep) (first
          | ((with_reducible refine (N1.out _).mono ?_); rintro e w8 ⟨rfl, hb8⟩; have k8 := keep13 (by assumption) hb8)
          | ((with_reducible refine (N2.out _).mono ?_); rintro e w8 ⟨rfl, hb8⟩; have k8 := keep13 (by assumption) hb8)
          | ((with_reducible refine (S1.out _ (HG.out.next (below13 (by assumption)))).mono ?_); rintro e w8 ⟨rfl, hb8⟩; have k8 := keep13 (by assumption) hb8)
          | ((with_reducible refine (S2.out _).mono ?_); rintro e w8 ⟨rfl, hb8⟩; have k8 := keep13 (by assumption) hb8)
          | ((with_reducible refine (U1.out _).mono ?_); rintro e w8 ⟨rfl, hb8⟩; have k8 := keep13 (by assumption) hb8)
          | ((with_reducible refine (U2.out _).mono ?_); rintro e w8 ⟨rfl, hb8⟩; have k8 := keep13 (by assumption) hb8)
          | ((with_reducible refine (P1.out _ (HG.out.next (below13 (by assumption)))).mono ?_); rintro e w8 ⟨rfl, hb8⟩; have k8 := keep13 (by assumption) hb8)
          | ((with_reducible refine (P2.out _).mono ?_); rintro e w8 ⟨rfl, hb8⟩; have k8 := keep13 (by assumption) hb8))
    all_goals
      have HB9 : Hid (Below w.heap.size w w8) := Lib.hid (below13 (by assumption))
      go_wp2_with fail
      go_ret
      exact ⟨rfl, HB9.out⟩
end Go.Proofs.YtnickicmfogahaaDoor
