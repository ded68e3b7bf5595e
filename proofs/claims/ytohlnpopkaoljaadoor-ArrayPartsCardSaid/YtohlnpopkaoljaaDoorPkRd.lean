/-
  WHAT A READER IS IN MEMORY (four cells of one block), what it is for a call to write to that block alone, and the contracts of the Reader's small methods: stands, refuse, sign, Err, At, Read.
-/
import Derived.Test.YtohlnpopkaoljaaDoorRows
import Derived.WalkKit
import Derived.WalkSpells
import Derived.WalkLawsBesides
import Derived.Lib.Hide
import Derived.Deep.QuietTactic
import Derived.BigQuiet
import Derived.IntWalk
import Derived.Lib.Strings
import Derived.Lib.IndexBytes
namespace Go.Proofs.YtohlnpopkaoljaaDoor
open Go.RowKit

/-- Of what lay in memory block b alone has turned. -/
structure Only (b : Nat) (w w' : World) : Prop where
  os : w'.os = w.os
  tape : w'.tape = w.tape
  output : w'.output = w.output
  size : w.heap.size ≤ w'.heap.size
  block : ∀ k, k < w.heap.size → k ≠ b → w'.heap[k]? = w.heap[k]?
theorem Only.refl (b : Nat) (w : World) : Only b w w := ⟨rfl, rfl, rfl, Nat.le_refl _, fun _ _ _ => rfl⟩
theorem Only.trans {b : Nat} {u v w : World} (h : Only b u v) (k : Only b v w) : Only b u w :=
  ⟨k.os.trans h.os, k.tape.trans h.tape, k.output.trans h.output, Nat.le_trans h.size k.size, fun i hi hne => (k.block i (Nat.lt_of_lt_of_le hi h.size) hne).trans (h.block i hi hne)⟩
theorem Only.drew {b : Nat} {u w : World} (h : Only b u w) : Only b u w.drew := ⟨h.os, h.tape, h.output, h.size, h.block⟩
theorem Only.drewN {b n : Nat} {u w : World} (h : Only b u w) : Only b u (w.drewN n) := ⟨h.os, h.tape, h.output, h.size, h.block⟩
theorem Only.setCell {b : Nat} {u w : World} (h : Only b u w) (o : Nat) (v : Value) : Only b u (w.setCell ⟨b, o, none⟩ v) := by
  refine h.trans ⟨rfl, rfl, rfl, Nat.le_of_eq (World.size_setCell _ _ _).symm, fun k _ hne => Below.heap_setCell w _ v k hne⟩
theorem Only.of_below {b B : Nat} {w w' : World} (h : Below B w w') (hB : w.heap.size ≤ B) : Only b w w' :=
  ⟨h.os, h.tape, h.output, h.size, fun k hk _ => h.block k (Nat.lt_of_lt_of_le hk hB)⟩
theorem Only.below {b B : Nat} {w w' : World} (h : Only b w w') (hb : B ≤ b) (hB : B ≤ w.heap.size) : Below B w w' :=
  ⟨h.os, h.tape, h.output, h.size, fun k hk => h.block k (Nat.lt_of_lt_of_le hk hB) (by omega)⟩
theorem Only.cell {b : Nat} {w w' : World} (h : Only b w w') {p : Addr} (hp : p.block < w.heap.size) (hne : p.block ≠ b) : w'.cell? p = w.cell? p := World.cell?_of_block (w := w) (h.block p.block hp hne)
theorem Only.frozen {b : Nat} {w w' : World} (h : Only b w w') {p : Addr} (hp : p.block < w.heap.size) (hne : p.block ≠ b) : w'.frozen? p = w.frozen? p := World.frozen?_of_block (w := w) (h.block p.block hp hne)

/-- A Reader lies in block b: the bytes s, the place, how many lists are open, the error's number. -/
structure Rd (w : World) (b : Nat) (s : ByteArray) (at_ op er : Nat) : Prop where
  s : w.cell? ⟨b, 0, none⟩ = some (.string s)
  a : w.cell? ⟨b, 1, none⟩ = some (.int .i64 at_)
  o : w.cell? ⟨b, 2, none⟩ = some (.int .i64 op)
  e : w.cell? ⟨b, 3, none⟩ = some (.int .i64 er)
  f1 : w.frozen? ⟨b, 1, none⟩ = false
  f2 : w.frozen? ⟨b, 2, none⟩ = false
  f3 : w.frozen? ⟨b, 3, none⟩ = false
theorem Rd.drew {w : World} {b : Nat} {s : ByteArray} {i j k : Nat} (h : Rd w b s i j k) : Rd w.drew b s i j k := ⟨h.s, h.a, h.o, h.e, h.f1, h.f2, h.f3⟩
theorem Rd.drewN {w : World} {b n : Nat} {s : ByteArray} {i j k : Nat} (h : Rd w b s i j k) : Rd (w.drewN n) b s i j k := ⟨h.s, h.a, h.o, h.e, h.f1, h.f2, h.f3⟩
theorem Rd.lt {w : World} {b : Nat} {s : ByteArray} {i j k : Nat} (h : Rd w b s i j k) : b < w.heap.size := World.block_lt_of_cell? _ _ h.s
theorem Rd.setA {w : World} {b : Nat} {s : ByteArray} {i j k : Nat} (h : Rd w b s i j k) (n : Nat) : Rd (w.setCell ⟨b, 1, none⟩ (.int .i64 n)) b s n j k :=
  ⟨by rw [World.cell?_setCell_other _ _ _ _ (by simp)]; exact h.s, World.cell?_setCell_same _ _ _ h.a, by rw [World.cell?_setCell_other _ _ _ _ (by simp)]; exact h.o, by rw [World.cell?_setCell_other _ _ _ _ (by simp)]; exact h.e, by simpa using h.f1, by simpa using h.f2, by simpa using h.f3⟩
theorem Rd.setO {w : World} {b : Nat} {s : ByteArray} {i j k : Nat} (h : Rd w b s i j k) (n : Nat) : Rd (w.setCell ⟨b, 2, none⟩ (.int .i64 n)) b s i n k :=
  ⟨by rw [World.cell?_setCell_other _ _ _ _ (by simp)]; exact h.s, by rw [World.cell?_setCell_other _ _ _ _ (by simp)]; exact h.a, World.cell?_setCell_same _ _ _ h.o, by rw [World.cell?_setCell_other _ _ _ _ (by simp)]; exact h.e, by simpa using h.f1, by simpa using h.f2, by simpa using h.f3⟩
theorem Rd.setE {w : World} {b : Nat} {s : ByteArray} {i j k : Nat} (h : Rd w b s i j k) (n : Nat) : Rd (w.setCell ⟨b, 3, none⟩ (.int .i64 n)) b s i j n :=
  ⟨by rw [World.cell?_setCell_other _ _ _ _ (by simp)]; exact h.s, by rw [World.cell?_setCell_other _ _ _ _ (by simp)]; exact h.a, by rw [World.cell?_setCell_other _ _ _ _ (by simp)]; exact h.o, World.cell?_setCell_same _ _ _ h.e, by simpa using h.f1, by simpa using h.f2, by simpa using h.f3⟩
theorem Rd.below {w w1 : World} {b B : Nat} {s : ByteArray} {i j k : Nat} (h : Rd w b s i j k) (hB : Below B w w1) (hb : b < B) : Rd w1 b s i j k :=
  ⟨(hB.cell (p := ⟨b, 0, none⟩) hb).trans h.s, (hB.cell (p := ⟨b, 1, none⟩) hb).trans h.a, (hB.cell (p := ⟨b, 2, none⟩) hb).trans h.o, (hB.cell (p := ⟨b, 3, none⟩) hb).trans h.e, (hB.frozen (p := ⟨b, 1, none⟩) hb).trans h.f1, (hB.frozen (p := ⟨b, 2, none⟩) hb).trans h.f2, (hB.frozen (p := ⟨b, 3, none⟩) hb).trans h.f3⟩
theorem Rd.only {w w1 : World} {b c : Nat} {s : ByteArray} {i j k : Nat} (h : Rd w b s i j k) (hc : Only c w w1) (hne : b ≠ c) : Rd w1 b s i j k :=
  ⟨(hc.cell (p := ⟨b, 0, none⟩) h.lt hne).trans h.s, (hc.cell (p := ⟨b, 1, none⟩) h.lt hne).trans h.a, (hc.cell (p := ⟨b, 2, none⟩) h.lt hne).trans h.o, (hc.cell (p := ⟨b, 3, none⟩) h.lt hne).trans h.e, (hc.frozen (p := ⟨b, 1, none⟩) h.lt hne).trans h.f1, (hc.frozen (p := ⟨b, 2, none⟩) h.lt hne).trans h.f2, (hc.frozen (p := ⟨b, 3, none⟩) h.lt hne).trans h.f3⟩

/-- What a call of the Reader's leaves: the Reader in its new state, and of what lay there its block alone turned. -/
def RdPost (b : Nat) (s : ByteArray) (i j k : Nat) (w w' : World) : Prop := Rd w' b s i j k ∧ Only b w w'

theorem Rd.new (s : ByteArray) (w : World) (T : TypeId) : Rd (w.alloc (.cells #[.string s, .int .i64 0, .int .i64 0, .int .i64 0] T)) w.heap.size s 0 0 0 :=
  ⟨by simp [go_sem], by simp [go_sem], by simp [go_sem], by simp [go_sem], by simp [go_sem], by simp [go_sem], by simp [go_sem]⟩


/-- Is c the next sign? -/
def stB (s : ByteArray) (i c : Nat) : Bool := if h : i < s.size then s[i].toNat == c else false


def refE (s : ByteArray) (i : Nat) : Nat := if i = s.size then 2 else 3

def signA (s : ByteArray) (i k c : Nat) : Nat := if k ≠ 0 then i else if stB s i c = true then i + 1 else i
def signE (s : ByteArray) (i k c : Nat) : Nat := if k ≠ 0 then k else if stB s i c = true then 0 else refE s i
end Go.Proofs.YtohlnpopkaoljaaDoor
