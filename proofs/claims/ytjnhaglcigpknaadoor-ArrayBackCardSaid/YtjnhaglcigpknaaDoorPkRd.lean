/-
  WHAT A READER IS IN MEMORY (four cells of one block), what it is for a call to write to that block alone, and the contracts of the Reader's small methods: stands, refuse, sign, Err, At, Read.
-/
import Derived.Test.YtjnhaglcigpknaaDoorRows
import Derived.WalkKit
import Derived.WalkSpells
import Derived.WalkLawsBesides
import Derived.Lib.Hide
import Derived.Deep.QuietTactic
import Derived.BigQuiet
import Derived.IntWalk
import Derived.Lib.Strings
import Derived.Lib.IndexBytes
namespace Go.Proofs.YtjnhaglcigpknaaDoor
open Go.RowKit

/-- Of what lay in memory block b alone has turned. -/
structure Only (b : Nat) (w w' : World) : Prop where
  os : w'.os = w.os
  tape : w'.tape = w.tape
  output : w'.output = w.output
  size : w.heap.size ≤ w'.heap.size
  block : ∀ k, k < w.heap.size → k ≠ b → w'.heap[k]? = w.heap[k]?
theorem Only.refl (b : Nat) (w : World) : Only b w w := ⟨rfl, rfl, rfl, Nat.le_refl _, fun _ _ _ => rfl⟩
theorem Only.trans {b : Nat} {u v w : World} (h : Only b u v) (k : Only b v w) : Only b u w :=
  ⟨k.os.trans h.os, k.tape.trans h.tape, k.output.trans h.output, Nat.le_trans h.size k.size, fun i hi hne => (k.block i (Nat.lt_of_lt_of_le hi h.size) hne).trans (h.block i hi hne)⟩
theorem Only.drew {b : Nat} {u w : World} (h : Only b u w) : Only b u w.drew := ⟨h.os, h.tape, h.output, h.size, h.block⟩
theorem Only.drewN {b n : Nat} {u w : World} (h : Only b u w) : Only b u (w.drewN n) := ⟨h.os, h.tape, h.output, h.size, h.block⟩
theorem Only.setCell {b : Nat} {u w : World} (h : Only b u w) (o : Nat) (v : Value) : Only b u (w.setCell ⟨b, o, none⟩ v) := by
  refine h.trans ⟨rfl, rfl, rfl, Nat.le_of_eq (World.size_setCell _ _ _).symm, fun k _ hne => Below.heap_setCell w _ v k hne⟩
theorem Only.of_below {b B : Nat} {w w' : World} (h : Below B w w') (hB : w.heap.size ≤ B) : Only b w w' :=
  ⟨h.os, h.tape, h.output, h.size, fun k hk _ => h.block k (Nat.lt_of_lt_of_le hk hB)⟩
theorem Only.below {b B : Nat} {w w' : World} (h : Only b w w') (hb : B ≤ b) (hB : B ≤ w.heap.size) : Below B w w' :=
  ⟨h.os, h.tape, h.output, h.size, fun k hk => h.block k (Nat.lt_of_lt_of_le hk hB) (by omega)⟩
theorem Only.cell {b : Nat} {w w' : World} (h : Only b w w') {p : Addr} (hp : p.block < w.heap.size) (hne : p.block ≠ b) : w'.cell? p = w.cell? p := World.cell?_of_block (w := w) (h.block p.block hp hne)
theorem Only.frozen {b : Nat} {w w' : World} (h : Only b w w') {p : Addr} (hp : p.block < w.heap.size) (hne : p.block ≠ b) : w'.frozen? p = w.frozen? p := World.frozen?_of_block (w := w) (h.block p.block hp hne)

/-- A Reader lies in block b: the bytes s, the place, how many lists are open, the error's number. -/
structure Rd (w : World) (b : Nat) (s : ByteArray) (at_ op er : Nat) : Prop where
  s : w.cell? ⟨b, 0, none⟩ = some (.string s)
  a : w.cell? ⟨b, 1, none⟩ = some (.int .i64 at_)
  o : w.cell? ⟨b, 2, none⟩ = some (.int .i64 op)
  e : w.cell? ⟨b, 3, none⟩ = some (.int .i64 er)
  f1 : w.frozen? ⟨b, 1, none⟩ = false
  f2 : w.frozen? ⟨b, 2, none⟩ = false
  f3 : w.frozen? ⟨b, 3, none⟩ = false
theorem Rd.drew {w : World} {b : Nat} {s : ByteArray} {i j k : Nat} (h : Rd w b s i j k) : Rd w.drew b s i j k := ⟨h.s, h.a, h.o, h.e, h.f1, h.f2, h.f3⟩
theorem Rd.drewN {w : World} {b n : Nat} {s : ByteArray} {i j k : Nat} (h : Rd w b s i j k) : Rd (w.drewN n) b s i j k := ⟨h.s, h.a, h.o, h.e, h.f1, h.f2, h.f3⟩
theorem Rd.lt {w : World} {b : Nat} {s : ByteArray} {i j k : Nat} (h : Rd w b s i j k) : b < w.heap.size := World.block_lt_of_cell? _ _ h.s
theorem Rd.setA {w : World} {b : Nat} {s : ByteArray} {i j k : Nat} (h : Rd w b s i j k) (n : Nat) : Rd (w.setCell ⟨b, 1, none⟩ (.int .i64 n)) b s n j k :=
  ⟨by rw [World.cell?_setCell_other _ _ _ _ (by simp)]; exact h.s, World.cell?_setCell_same _ _ _ h.a, by rw [World.cell?_setCell_other _ _ _ _ (by simp)]; exact h.o, by rw [World.cell?_setCell_other _ _ _ _ (by simp)]; exact h.e, by simpa using h.f1, by simpa using h.f2, by simpa using h.f3⟩
theorem Rd.setO {w : World} {b : Nat} {s : ByteArray} {i j k : Nat} (h : Rd w b s i j k) (n : Nat) : Rd (w.setCell ⟨b, 2, none⟩ (.int .i64 n)) b s i n k :=
  ⟨by rw [World.cell?_setCell_other _ _ _ _ (by simp)]; exact h.s, by rw [World.cell?_setCell_other _ _ _ _ (by simp)]; exact h.a, World.cell?_setCell_same _ _ _ h.o, by rw [World.cell?_setCell_other _ _ _ _ (by simp)]; exact h.e, by simpa using h.f1, by simpa using h.f2, by simpa using h.f3⟩
theorem Rd.setE {w : World} {b : Nat} {s : ByteArray} {i j k : Nat} (h : Rd w b s i j k) (n : Nat) : Rd (w.setCell ⟨b, 3, none⟩ (.int .i64 n)) b s i j n :=
  ⟨by rw [World.cell?_setCell_other _ _ _ _ (by simp)]; exact h.s, by rw [World.cell?_setCell_other _ _ _ _ (by simp)]; exact h.a, by rw [World.cell?_setCell_other _ _ _ _ (by simp)]; exact h.o, World.cell?_setCell_same _ _ _ h.e, by simpa using h.f1, by simpa using h.f2, by simpa using h.f3⟩
theorem Rd.below {w w1 : World} {b B : Nat} {s : ByteArray} {i j k : Nat} (h : Rd w b s i j k) (hB : Below B w w1) (hb : b < B) : Rd w1 b s i j k :=
  ⟨(hB.cell (p := ⟨b, 0, none⟩) hb).trans h.s, (hB.cell (p := ⟨b, 1, none⟩) hb).trans h.a, (hB.cell (p := ⟨b, 2, none⟩) hb).trans h.o, (hB.cell (p := ⟨b, 3, none⟩) hb).trans h.e, (hB.frozen (p := ⟨b, 1, none⟩) hb).trans h.f1, (hB.frozen (p := ⟨b, 2, none⟩) hb).trans h.f2, (hB.frozen (p := ⟨b, 3, none⟩) hb).trans h.f3⟩
theorem Rd.only {w w1 : World} {b c : Nat} {s : ByteArray} {i j k : Nat} (h : Rd w b s i j k) (hc : Only c w w1) (hne : b ≠ c) : Rd w1 b s i j k :=
  ⟨(hc.cell (p := ⟨b, 0, none⟩) h.lt hne).trans h.s, (hc.cell (p := ⟨b, 1, none⟩) h.lt hne).trans h.a, (hc.cell (p := ⟨b, 2, none⟩) h.lt hne).trans h.o, (hc.cell (p := ⟨b, 3, none⟩) h.lt hne).trans h.e, (hc.frozen (p := ⟨b, 1, none⟩) h.lt hne).trans h.f1, (hc.frozen (p := ⟨b, 2, none⟩) h.lt hne).trans h.f2, (hc.frozen (p := ⟨b, 3, none⟩) h.lt hne).trans h.f3⟩

/-- What a call of the Reader's leaves: the Reader in its new state, and of what lay there its block alone turned. -/
def RdPost (b : Nat) (s : ByteArray) (i j k : Nat) (w w' : World) : Prop := Rd w' b s i j k ∧ Only b w w'

set_option maxHeartbeats 400000 in
theorem read_any (s : ByteArray) (w : World) :
    Calls Tryd.prog 6 #[.string s] w fun e w' => e = .returned (.pointer (some ⟨w.heap.size, 0, none⟩)) ∧ w' = w.alloc (.cells #[.string s, .int .i64 0, .int .i64 0, .int .i64 0] 61) := by
  go_enter Tryd.func6, Tryd.ntmps6
  go_wp2
  go_ret
  exact ⟨rfl, rfl⟩
theorem Rd.new (s : ByteArray) (w : World) (T : TypeId) : Rd (w.alloc (.cells #[.string s, .int .i64 0, .int .i64 0, .int .i64 0] T)) w.heap.size s 0 0 0 :=
  ⟨by simp [go_sem], by simp [go_sem], by simp [go_sem], by simp [go_sem], by simp [go_sem], by simp [go_sem], by simp [go_sem]⟩

set_option maxHeartbeats 400000 in
theorem err_any (b : Nat) (s : ByteArray) (i j k : Nat) (w : World) (h : Rd w b s i j k) :
    Calls Tryd.prog 26 #[.pointer (some ⟨b, 0, none⟩)] w fun e w' => e = .returned (.int .i64 k) ∧ w = w' := by
  obtain ⟨hs, ha, ho, he, f1, f2, f3⟩ := h
  go_enter Tryd.func26, Tryd.ntmps26
  go_wp2
  go_ret
  exact ⟨rfl, rfl⟩

/-- Is c the next sign? -/
def stB (s : ByteArray) (i c : Nat) : Bool := if h : i < s.size then s[i].toNat == c else false

set_option maxHeartbeats 1000000 in
theorem stands_any (b : Nat) (s : ByteArray) (i j k c : Nat) (w : World) (h : Rd w b s i j k) (hi : i ≤ s.size) (_hs1 : s.size ≤ maxLen) :
    Calls Tryd.prog 38 #[.pointer (some ⟨b, 0, none⟩), .int .u8 c] w fun e w' => e = .returned (.bool (stB s i c)) ∧ ∃ n, w' = w.drewN n := by
  obtain ⟨hs, ha, ho, he, f1, f2, f3⟩ := h
  unfold maxLen at _hs1
  by_cases hlt : i < s.size
  · have e : stB s i c = (s[i].toNat == c) := by unfold stB; rw [dif_pos hlt]
    rw [e]
    have hlt2 : (i : Int) < (s.size : Int) := by omega
    have hlt3 : decide ((i : Int) < (s.size : Int)) = true := by simpa using hlt
    go_enter Tryd.func38, Tryd.ntmps38
    go_wp2_with fail
    go_quiet (fail)
    go_wp2_with fail
    go_ret
    exact ⟨congrArg (fun b => Ending.returned (Value.bool b)) (by rw [Bool.eq_iff_iff]; simp; omega), nq, rfl⟩
  · have e : stB s i c = false := by unfold stB; rw [dif_neg hlt]
    rw [e]
    obtain rfl : i = s.size := by omega
    go_enter Tryd.func38, Tryd.ntmps38
    go_wp2_with fail
    go_quiet (fail)
    go_wp2_with fail
    go_ret
    exact ⟨rfl, nq, rfl⟩

def refE (s : ByteArray) (i : Nat) : Nat := if i = s.size then 2 else 3
set_option maxHeartbeats 1000000 in
theorem refuse_any (b : Nat) (s : ByteArray) (i j k : Nat) (w : World) (h : Rd w b s i j k) :
    Calls Tryd.prog 47 #[.pointer (some ⟨b, 0, none⟩)] w fun e w' => e = .returned (.tuple #[]) ∧ RdPost b s i j (refE s i) w w' := by
  have h1 := h.setE 3
  obtain ⟨hs, ha, ho, he, f1, f2, f3⟩ := h
  by_cases hq : i = s.size
  · have e : refE s i = 2 := by unfold refE; rw [if_pos hq]
    rw [e]
    subst hq
    go_enter Tryd.func47, Tryd.ntmps47
    go_wp2_with fail
    go_quiet (fail)
    go_wp2_with fail
    go_end0
    exact ⟨rfl, (h1.drewN).setE 2, (((Only.refl _ _).setCell 3 _).drewN).setCell 3 _⟩
  · have e : refE s i = 3 := by unfold refE; rw [if_neg hq]
    rw [e]
    have hq2 : ((i : Int) == (s.size : Int)) = false := by rw [Bool.eq_false_iff]; simp; omega
    go_enter Tryd.func47, Tryd.ntmps47
    go_wp2_with fail
    go_quiet (fail)
    go_wp2_with fail
    go_end0
    exact ⟨rfl, h1.drewN, ((Only.refl _ _).setCell 3 _).drewN⟩

def signA (s : ByteArray) (i k c : Nat) : Nat := if k ≠ 0 then i else if stB s i c = true then i + 1 else i
def signE (s : ByteArray) (i k c : Nat) : Nat := if k ≠ 0 then k else if stB s i c = true then 0 else refE s i
set_option maxHeartbeats 1000000 in
theorem sign_any (b : Nat) (s : ByteArray) (i j k c : Nat) (w : World) (h : Rd w b s i j k) (hi : i ≤ s.size) (hs1 : s.size ≤ maxLen) :
    Calls Tryd.prog 37 #[.pointer (some ⟨b, 0, none⟩), .int .u8 c] w fun e w' => e = .returned (.tuple #[]) ∧ RdPost b s (signA s i k c) j (signE s i k c) w w' := by
  have h1 := h
  obtain ⟨hs, ha, ho, he, f1, f2, f3⟩ := h
  have hs2 := hs1
  unfold maxLen at hs2
  by_cases hk : k = 0
  · subst hk
    cases hst : stB s i c with
    | true =>
      have e1 : signA s i 0 c = i + 1 := by simp [signA, hst]
      have e2 : signE s i 0 c = 0 := by simp [signE, hst]
      rw [e1, e2]
      have hlt : i < s.size := by
        unfold stB at hst
        by_cases hq : i < s.size
        · exact hq
        · rw [dif_neg hq] at hst; cases hst
      have HST := Lib.hid hst
      clear hst e1 e2
      go_enter Tryd.func37, Tryd.ntmps37
      go_wp2_with fail
      refine (stands_any b s i j 0 c _ h1 hi hs1).mono ?_
      rintro e w1 ⟨rfl, n, rfl⟩
      rw [HST.out]
      go_wp2_with fail
      go_end0
      exact ⟨rfl, h1.drewN.setA (i + 1), (Only.refl _ _).drewN.setCell 1 _⟩
    | false =>
      have e1 : signA s i 0 c = i := by simp [signA, hst]
      have e2 : signE s i 0 c = refE s i := by simp [signE, hst]
      rw [e1, e2]
      have HST := Lib.hid hst
      clear hst e1 e2
      go_enter Tryd.func37, Tryd.ntmps37
      go_wp2_with fail
      refine (stands_any b s i j 0 c _ h1 hi hs1).mono ?_
      rintro e w1 ⟨rfl, n, rfl⟩
      rw [HST.out]
      go_wp2_with fail
      refine (refuse_any b s i j 0 _ h1.drewN).mono ?_
      rintro e w2 ⟨rfl, hr, ho2⟩
      go_wp2_with fail
      go_end0
      exact ⟨rfl, hr, (Only.refl _ _).drewN.trans ho2⟩
  · have e1 : signA s i k c = i := by simp [signA, hk]
    have e2 : signE s i k c = k := by simp [signE, hk]
    rw [e1, e2]
    have hk2 : ((k : Int) != 0) = true := by rw [bne_iff_ne]; omega
    go_enter Tryd.func37, Tryd.ntmps37
    go_wp2_with fail
    go_end0
    exact ⟨rfl, h1, Only.refl _ _⟩
end Go.Proofs.YtjnhaglcigpknaaDoor
