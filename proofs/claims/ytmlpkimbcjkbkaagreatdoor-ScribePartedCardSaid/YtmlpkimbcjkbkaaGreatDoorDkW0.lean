/-
  WHAT A DISK IS IN MEMORY: its cell block, two maps of names, files with two slices each; what may change, and what stays.
-/
import Derived.Test.YtmlpkimbcjkbkaaGreatDoorRows
import Derived.WalkKit
import Derived.WalkSpells
import Derived.WalkLawsBesides
import Derived.Maps.Own
import Derived.Maps.Views
import Derived.Maps.OwnSet
import Derived.Maps.Ext
import Derived.Below
import Derived.Lib.AppendStr
import Derived.Lib.UnsafeStr
import Derived.Maps.AppendAt
import Derived.OwnWalk
namespace Go.Proofs.YtmlpkimbcjkbkaaGreatDoor
open Go.RowKit Go.Maps

abbrev Nm := List UInt8
abbrev Dir := List (Nm × Nat)

theorem bytesBefore_lt : ∀ a b : List UInt8, bytesBefore a b = decide (a < b)
  | [], [] => by simp [bytesBefore]
  | [], _ :: _ => by simp [bytesBefore]
  | _ :: _, [] => by simp [bytesBefore]
  | a :: r, b :: s => by
    unfold bytesBefore
    rw [bytesBefore_lt r s]
    simp only [List.cons_lt_cons_iff]
    by_cases h : a < b <;> by_cases h2 : a = b <;> simp [h, h2]

def ins (n : Nm) (b : Nat) : Dir → Dir
  | [] => [(n, b)]
  | x :: r => if n < x.1 then (n, b) :: x :: r else x :: ins n b r
def delD (l : Dir) (n : Nm) : Dir := l.filter (fun p => p.1 != n)
def putD (l : Dir) (n : Nm) (b : Nat) : Dir := ins n b (delD l n)
def getD (l : Dir) (n : Nm) : Option Nat := (l.find? (fun p => p.1 == n)).map (·.2)
def Srt (l : Dir) : Prop := l.Pairwise (fun a b => a.1 < b.1)

/-- What a map of pointers reads as. -/
def ent (p : Nm × Nat) : Lit × DataW Unit := (.string p.1, .lit (.int .i64 p.2))
def dat (l : Dir) : DataW Unit := .map (l.map ent)
def ptrE : Value → Option (DataW Unit × List MemPlace)
  | .pointer none => some (.nil, [])
  | .pointer (some ⟨b, 0, none⟩) => some (.lit (.int .i64 b), [])
  | _ => none
theorem ptrE_none : ptrE (.pointer none) = some (.nil, []) := rfl
theorem ptrE_some (b : Nat) : ptrE (.pointer (some ⟨b, 0, none⟩)) = some (.lit (.int .i64 b), []) := rfl
theorem ptrE_inv {v : Value} {z : DataW Unit × List MemPlace} (h : ptrE v = some z) : (v = .pointer none ∧ z = (.nil, [])) ∨ ∃ b : Nat, v = .pointer (some ⟨b, 0, none⟩) ∧ z = (.lit (.int .i64 b), []) := by
  unfold ptrE at h
  split at h
  · cases h; exact .inl ⟨rfl, rfl⟩
  · cases h; exact .inr ⟨_, rfl, rfl⟩
  · cases h
theorem ptrE_nil {v : Value} {ps : List MemPlace} (h : ptrE v = some (.nil, ps)) : v = .pointer none := by
  rcases ptrE_inv h with ⟨rfl, _⟩ | ⟨b, rfl, e⟩
  · rfl
  · simp at e
theorem ptrE_lit {v : Value} {ps : List MemPlace} {b : Nat} (h : ptrE v = some (.lit (.int .i64 b), ps)) : v = .pointer (some ⟨b, 0, none⟩) := by
  rcases ptrE_inv h with ⟨rfl, e⟩ | ⟨b', rfl, e⟩
  · simp at e
  · simp at e; obtain ⟨e, _⟩ := e; have e' : b = b' := by omega
    rw [e']

theorem insert_ent (n : Nm) (b : Nat) : ∀ l : Dir, DataW.insert (ent (n, b)) (l.map ent) = (ins n b l).map ent
  | [] => rfl
  | x :: r => by
    simp only [List.map_cons, DataW.insert, ins]
    have e : Lit.before (ent (n, b)).1 (ent x).1 = decide (n < x.1) := by simp [ent, Lit.before, bytesBefore_lt]
    rw [e]
    by_cases h : n < x.1
    · simp [h]
    · simp [h, insert_ent n b r]
theorem filter_ent (l : Dir) (n : Nm) : (l.map ent).filter (fun p => !p.1.sameKey (.string n)) = (delD l n).map ent := by
  induction l with
  | nil => rfl
  | cons x r ih =>
    simp only [delD] at ih ⊢
    simp only [List.map_cons, List.filter_cons]
    have e : (ent x).1.sameKey (.string n) = (x.1 == n) := by simp [ent, Lit.sameKey]
    rw [e, ih]
    by_cases h : x.1 = n <;> simp [h]
theorem dat_put (l : Dir) (n : Nm) (b : Nat) : (dat l).put (.string n) (.lit (.int .i64 b)) = dat (putD l n b) := by
  unfold dat DataW.put putD
  simp only []
  rw [filter_ent]
  exact congrArg DataW.map (insert_ent n b _)
theorem dat_del (l : Dir) (n : Nm) : (dat l).del (.string n) = dat (delD l n) := by
  unfold dat DataW.del
  simp only []
  rw [filter_ent]
theorem dat_get (l : Dir) (n : Nm) : (dat l).atKey (.string n) .nil = (match getD l n with | some b => .lit (.int .i64 b) | none => .nil) := by
  unfold dat DataW.atKey getD
  simp only []
  induction l with
  | nil => rfl
  | cons x r ih =>
    simp only [List.map_cons, List.find?_cons]
    have e : (ent x).1.sameKey (.string n) = (x.1 == n) := by simp [ent, Lit.sameKey]
    rw [e]
    by_cases h : x.1 = n
    · simp [h, ent]
    · have hf : (x.1 == n) = false := by simpa using h
      rw [hf]; exact ih
theorem dat_size (l : Dir) : Maps.size (dat l) = l.length := by simp [dat, Maps.size]
theorem dat_has (l : Dir) (n : Nm) : Maps.has (dat l) (.string n) = (getD l n).isSome := by
  unfold dat Maps.has getD
  simp only []
  induction l with
  | nil => rfl
  | cons x r ih =>
    simp only [List.map_cons, List.any_cons, List.find?_cons, ih]
    have e : (ent x).1.sameKey (.string n) = (x.1 == n) := by simp [ent, Lit.sameKey]
    rw [e]
    by_cases h : x.1 = n
    · simp [h]
    · have hf : (x.1 == n) = false := by simpa using h
      rw [hf]; simp

/-! ### sorted lists of names -/
theorem nm_trans {a b c : Nm} (h : a < b) (k : b < c) : a < c := List.lt_trans h k
theorem nm_irrefl (a : Nm) : ¬ a < a := List.lt_irrefl a
theorem nm_tri {a b : Nm} (h : ¬ a < b) (h2 : a ≠ b) : b < a := by
  rcases List.le_total a b with k | k
  · exact absurd (Std.lt_of_le_of_ne k h2) h
  · exact Std.lt_of_le_of_ne k (Ne.symm h2)
theorem Srt.del {l : Dir} (h : Srt l) (n : Nm) : Srt (delD l n) := List.Pairwise.filter _ h
theorem mem_ins {n : Nm} {b : Nat} {x : Nm × Nat} : ∀ {l : Dir}, x ∈ ins n b l ↔ x = (n, b) ∨ x ∈ l
  | [] => by simp [ins]
  | y :: r => by
    unfold ins
    split
    · simp
    · simp only [List.mem_cons, mem_ins (l := r)]
      constructor
      · rintro (h | h | h) <;> simp [h]
      · rintro (h | h | h) <;> simp [h]
theorem mem_delD {l : Dir} {n : Nm} {x : Nm × Nat} : x ∈ delD l n ↔ x ∈ l ∧ x.1 ≠ n := by simp [delD]
theorem mem_putD {l : Dir} {n : Nm} {b : Nat} {x : Nm × Nat} : x ∈ putD l n b ↔ x = (n, b) ∨ (x ∈ l ∧ x.1 ≠ n) := by
  rw [putD, mem_ins, mem_delD]
theorem Srt.ins {n : Nm} {b : Nat} : ∀ {l : Dir}, Srt l → (∀ p ∈ l, p.1 ≠ n) → Srt (ins n b l)
  | [], _, _ => by simp [Srt, YtmlpkimbcjkbkaaGreatDoor.ins]
  | x :: r, h, hn => by
    have h' := List.pairwise_cons.1 h
    unfold YtmlpkimbcjkbkaaGreatDoor.ins
    split
    · rename_i hlt
      refine List.pairwise_cons.2 ⟨?_, h⟩
      intro y hy
      rcases List.mem_cons.1 hy with rfl | hy
      · exact hlt
      · exact nm_trans hlt (h'.1 y hy)
    · rename_i hlt
      refine List.pairwise_cons.2 ⟨?_, Srt.ins h'.2 (fun p hp => hn p (by simp [hp]))⟩
      intro y hy
      rcases mem_ins.1 hy with rfl | hy
      · exact nm_tri hlt (fun e => hn x (by simp) e.symm)
      · exact h'.1 y hy
theorem Srt.put {l : Dir} (h : Srt l) (n : Nm) (b : Nat) : Srt (putD l n b) := (h.del n).ins (fun _ hp => (mem_delD.1 hp).2)
theorem length_ins (n : Nm) (b : Nat) : ∀ l : Dir, (ins n b l).length = l.length + 1
  | [] => rfl
  | x :: r => by
    unfold ins
    split
    · rfl
    · simp [length_ins n b r]
theorem length_delD (l : Dir) (n : Nm) : (delD l n).length ≤ l.length := List.length_filter_le _ _
theorem length_putD (l : Dir) (n : Nm) (b : Nat) : (putD l n b).length ≤ l.length + 1 := by
  rw [putD, length_ins]
  have := length_delD l n
  omega
theorem getD_mem {l : Dir} {n : Nm} {b : Nat} (h : getD l n = some b) : (n, b) ∈ l := by
  unfold getD at h
  cases hf : l.find? (fun p => p.1 == n) with
  | none => rw [hf] at h; cases h
  | some x =>
    rw [hf] at h
    simp at h
    have h1 := List.find?_some hf
    have h2 := List.mem_of_find?_eq_some hf
    simp at h1
    subst h h1
    exact h2
theorem getD_none {l : Dir} {n : Nm} (h : getD l n = none) : ∀ p ∈ l, p.1 ≠ n := by
  intro p hp e
  unfold getD at h
  simp at h
  have := h p.1 p.2 hp
  exact this e
theorem getD_of_mem {l : Dir} (hs : Srt l) {n : Nm} {b : Nat} (h : (n, b) ∈ l) : getD l n = some b := by
  cases hg : getD l n with
  | none => exact absurd rfl (getD_none hg _ h)
  | some c =>
    have hc := getD_mem hg
    by_cases e : c = b
    · rw [e]
    · exfalso
      have : ∀ {l : Dir}, Srt l → (n, b) ∈ l → (n, c) ∈ l → False := by
        intro l hs hb hc
        induction l with
        | nil => cases hb
        | cons x r ih =>
          have h' := List.pairwise_cons.1 hs
          rcases List.mem_cons.1 hb with h1 | h1 <;> rcases List.mem_cons.1 hc with h2 | h2
          · rw [← h1] at h2; simp at h2; exact e h2
          · exact nm_irrefl n (by have := h'.1 (n, c) h2; rw [← h1] at this; exact this)
          · exact nm_irrefl n (by have := h'.1 (n, b) h1; rw [← h2] at this; exact this)
          · exact ih h'.2 h1 h2
      exact this hs h hc
theorem getD_put_same (l : Dir) (hs : Srt l) (n : Nm) (b : Nat) : getD (putD l n b) n = some b := getD_of_mem (hs.put n b) (mem_putD.2 (.inl rfl))
theorem getD_put_other (l : Dir) (hs : Srt l) {n m : Nm} (b : Nat) (h : m ≠ n) : getD (putD l n b) m = getD l m := by
  cases hg : getD l m with
  | some c => exact getD_of_mem (hs.put n b) (mem_putD.2 (.inr ⟨getD_mem hg, h⟩))
  | none =>
    cases hp : getD (putD l n b) m with
    | none => rfl
    | some c =>
      rcases mem_putD.1 (getD_mem hp) with e | ⟨e, _⟩
      · simp at e; exact absurd e.1 h
      · exact absurd rfl (getD_none hg _ e)
theorem getD_del_same (l : Dir) (n : Nm) : getD (delD l n) n = none := by
  cases hp : getD (delD l n) n with
  | none => rfl
  | some c => exact absurd rfl (mem_delD.1 (getD_mem hp)).2
theorem getD_del_other (l : Dir) (hs : Srt l) {n m : Nm} (h : m ≠ n) : getD (delD l n) m = getD l m := by
  cases hg : getD l m with
  | some c => exact getD_of_mem (hs.del n) (mem_delD.2 ⟨getD_mem hg, h⟩)
  | none =>
    cases hp : getD (delD l n) m with
    | none => rfl
    | some c => exact absurd rfl (getD_none hg _ (mem_delD.1 (getD_mem hp)).1)
theorem sorted_names {l : Dir} (hs : Srt l) {ss : List Nm} (h : ss.Perm (l.map (·.1))) : ss.mergeSort (fun x y => decide (x ≤ y)) = l.map (·.1) := by
  have hp : (ss.mergeSort (fun x y => decide (x ≤ y))).Perm (l.map (·.1)) := (List.mergeSort_perm _ _).trans h
  have h1 : (ss.mergeSort (fun x y => decide (x ≤ y))).Pairwise (fun a b => a ≤ b) := by
    have := List.pairwise_mergeSort (le := fun x y : Nm => decide (x ≤ y)) (by intro a b c; simp; exact fun h k => List.le_trans h k) (by intro a b; simp; exact List.le_total a b) ss
    exact this.imp (by intro a b h; simpa using h)
  have h2 : (l.map (·.1)).Pairwise (fun a b => a ≤ b) := by
    rw [List.pairwise_map]
    exact hs.imp (fun h => List.le_of_lt h)
  exact hp.eq_of_pairwise (fun a b _ _ x y => List.le_antisymm x y) h1 h2
end Go.Proofs.YtmlpkimbcjkbkaaGreatDoor

namespace Go.Proofs.YtmlpkimbcjkbkaaGreatDoor
open Go.RowKit Go.Maps

/-- A disk's words: names as they are and as they are safe, each file's bytes now and safe, the rest. -/
structure DS where
  now : Dir
  safe : Dir
  fs : Nat → Nm × Nm
  quota : Int
  left : Int
  dead : Bool

def DS.Has (d : DS) (b : Nat) : Prop := ∃ n, (n, b) ∈ d.now ∨ (n, b) ∈ d.safe

/-- Fp: blocks that a disk's calls may write. -/
structure Oth (Fp : Nat → Prop) (w w' : World) : Prop where
  os : w'.os = w.os
  tape : w'.tape = w.tape
  output : w'.output = w.output
  size : w.heap.size ≤ w'.heap.size
  block : ∀ k, k < w.heap.size → ¬ Fp k → w'.heap[k]? = w.heap[k]?
def Up (Fp : Nat → Prop) (w : World) : Prop := ∀ k, w.heap.size ≤ k → Fp k
theorem Oth.refl (Fp : Nat → Prop) (w : World) : Oth Fp w w := ⟨rfl, rfl, rfl, Nat.le_refl _, fun _ _ _ => rfl⟩
theorem Oth.trans {Fp : Nat → Prop} {a b c : World} (h : Oth Fp a b) (k : Oth Fp b c) : Oth Fp a c :=
  ⟨k.os.trans h.os, k.tape.trans h.tape, k.output.trans h.output, Nat.le_trans h.size k.size, fun i hi hn => (k.block i (Nat.lt_of_lt_of_le hi h.size) hn).trans (h.block i hi hn)⟩
theorem Oth.of_below {Fp : Nat → Prop} {w w' : World} (h : Below w.heap.size w w') : Oth Fp w w' := ⟨h.os, h.tape, h.output, h.size, fun k hk _ => h.block k hk⟩
theorem Oth.drew {Fp : Nat → Prop} {a w : World} (h : Oth Fp a w) : Oth Fp a w.drew := ⟨h.os, h.tape, h.output, h.size, h.block⟩
theorem Oth.alloc {Fp : Nat → Prop} {a w : World} (h : Oth Fp a w) (o : Obj) : Oth Fp a (w.alloc o) :=
  h.trans (Oth.of_below ((Below.refl _ w).alloc (Nat.le_refl _) o))
theorem Oth.setCell {Fp : Nat → Prop} {a w : World} (h : Oth Fp a w) {p : Addr} (hp : Fp p.block) (v : Value) : Oth Fp a (w.setCell p v) :=
  h.trans ⟨rfl, rfl, rfl, Nat.le_of_eq (World.size_setCell _ _ _).symm, fun k _ hn => Below.heap_setCell w p v k (fun e => hn (e ▸ hp))⟩
theorem Oth.grown {Fp : Nat → Prop} {a w w' : World} {row : Option Nat} (h : Oth Fp a w) (hg : w.grownBy w' row) (hr : ∀ k, row = some k → Fp k) : Oth Fp a w' :=
  h.trans ⟨hg.os, hg.tape, hg.output, hg.size, fun k hk hn => hg.block k hk (fun e => hn (hr k e.symm))⟩
theorem Oth.below {Fp : Nat → Prop} {w w' : World} (h : Oth Fp w w') {B : Nat} (hB : ∀ k, Fp k → B ≤ k) (hs : B ≤ w.heap.size) : Below B w w' :=
  ⟨h.os, h.tape, h.output, h.size, fun k hk => h.block k (by omega) (fun e => by have := hB k e; omega)⟩
theorem Oth.cell {Fp : Nat → Prop} {w w' : World} (h : Oth Fp w w') {p : Addr} {v : Value} (hp : ¬ Fp p.block) (hc : w.cell? p = some v) : w'.cell? p = some v := by
  rw [World.cell?_of_block (h.block p.block ?_ hp)]
  · exact hc
  · cases hb : w.heap[p.block]? with
    | none => simp [World.cell?, hb] at hc
    | some o => exact (Array.getElem?_eq_some_iff.1 hb).1
theorem Up.mono {Fp : Nat → Prop} {w w' : World} (h : Up Fp w) (hs : w.heap.size ≤ w'.heap.size) : Up Fp w' := fun k hk => h k (Nat.le_trans hs hk)

theorem setCell_block {w : World} {b i : Nat} {cur : Array Value} {e : TypeId} {fz : Nat × Nat} (h : w.heap[b]? = some (.cells cur e fz)) (v : Value) :
    (w.setCell ⟨b, i, none⟩ v).heap[b]? = some (.cells (cur.setIfInBounds i v) e fz) := by
  have hlt : b < w.heap.size := (Array.getElem?_eq_some_iff.1 h).1
  have hv : w.heap[b] = .cells cur e fz := (Array.getElem?_eq_some_iff.1 h).2
  unfold World.setCell
  rw [Array.getElem?_eq_getElem (by simpa using hlt), Array.getElem_modify]
  simp [hv]
theorem block_cell {w : World} {b i : Nat} {cur : Array Value} {e : TypeId} {fz : Nat × Nat} (h : w.heap[b]? = some (.cells cur e fz)) : w.cell? ⟨b, i, none⟩ = cur[i]? := by
  simp [World.cell?, h]
theorem block_frozen {w : World} {b i : Nat} {cur : Array Value} {e : TypeId} (h : w.heap[b]? = some (.cells cur e (0, 0))) : w.frozen? ⟨b, i, none⟩ = false := by
  simp [World.frozen?, h]

/-! ### slices of bytes that may share a row -/
/-- The mark of a row of n cells freezes none of them. -/
def Mk (fz : Nat × Nat) (n : Nat) : Prop := fz = (0, 0) ∨ n ≤ fz.1
/-- Block g is a row of bytes of these cells, none of them frozen. -/
def Row (w : World) (g : Nat) (cur : Array Value) : Prop := ∃ fz, Mk fz cur.size ∧ w.heap[g]? = some (.cells cur 5 fz)
theorem Row.plain {w : World} {g : Nat} {cur : Array Value} (h : w.heap[g]? = some (.cells cur 5 (0, 0))) : Row w g cur := ⟨_, .inl rfl, h⟩
theorem Row.keep {w w' : World} {g : Nat} {cur : Array Value} (h : Row w g cur) (e : w'.heap[g]? = w.heap[g]?) : Row w' g cur := by
  obtain ⟨fz, h1, h2⟩ := h
  exact ⟨fz, h1, e.trans h2⟩
theorem Row.uni {w : World} {g : Nat} {a b : Array Value} (h : Row w g a) (k : Row w g b) : a = b := by
  obtain ⟨fz, _, h2⟩ := h
  obtain ⟨fz', _, k2⟩ := k
  rw [h2] at k2
  simp at k2
  exact k2.1
theorem Row.lt {w : World} {g : Nat} {cur : Array Value} (h : Row w g cur) : g < w.heap.size := by
  obtain ⟨fz, _, h2⟩ := h
  exact (Array.getElem?_eq_some_iff.1 h2).1
theorem run_storeCells_atM (P : Program) (g o : Nat) (t : TypeId) (fz : Nat × Nat) : ∀ (vs : List Value) (i : Nat) (cur : Array Value) (w : World), w.heap[g]? = some (.cells cur t fz) → Mk fz cur.size → o + i + vs.length ≤ cur.size → (∀ v ∈ vs, v.oneCell' = true) →
    (storeCells ⟨g, o, none⟩ vs i).run P w = .ok () (w.setRow g (cur.toList.take (o + i) ++ vs ++ cur.toList.drop (o + i + vs.length)).toArray)
  | [], i, cur, w, hg, _, _, _ => by
    simp only [storeCells, List.append_nil, List.length_nil, Nat.add_zero, List.take_append_drop, Array.toArray_toList]
    rw [setRow_self w g cur t fz hg]
    rfl
  | v :: rest, i, cur, w, hg, hfz, hl, h1 => by
    have hi : o + i < cur.size := by simp at hl; omega
    have hadd : (⟨g, o, none⟩ : Addr).add i = ⟨g, o + i, none⟩ := by unfold Addr.add; split <;> simp_all
    have hcell : w.cell? ⟨g, o + i, none⟩ = some cur[o + i] := by simp [World.cell?, hg, hi]
    have hfro : w.frozen? ⟨g, o + i, none⟩ = false := by
      obtain ⟨lo, hi'⟩ := fz
      simp only [World.frozen?, hg, Bool.and_eq_false_iff, decide_eq_false_iff_not]
      rcases hfz with e | e
      · simp at e
        right; omega
      · left
        simp only at e
        omega
    have hst : (store ((⟨g, o, none⟩ : Addr).add i) v).run P w = .ok () (w.setRow g (cur.setIfInBounds (o + i) v)) := by
      rw [hadd, run_store P w _ v _ (h1 v (by simp)), hcell]
      simp [hfro, setCell_eq_setRow w g (o + i) cur t fz v hg]
    have ih := run_storeCells_atM P g o t fz rest (i + 1) (cur.setIfInBounds (o + i) v) (w.setRow g (cur.setIfInBounds (o + i) v)) (setRow_heap w g cur _ t _ hg) (by rw [Array.size_setIfInBounds]; exact hfz) (by simp at hl ⊢; omega) (fun x hx => h1 x (by simp [hx]))
    simp only [storeCells, Sem.run_bind, hst, Result.andThen_ok, ih, setRow_setRow]
    congr 3
    have e := list_seg_step cur.toList (o + i) v rest (by simp at hl ⊢; omega)
    simpa [Array.toList_setIfInBounds, Nat.add_assoc] using e
theorem run_append_roomM {P : Program} (w : World) (t u ty e : TypeId) (i : TypeInfo) (ht : P.underlying t = some (.slice e)) (hu : P.underlying u = some .string) (hi : P.info? e = some i) (hs1 : i.size = 1)
    (g sLen sCap : Nat) (cur : Array Value) (fz : Nat × Nat) (hg : w.heap[g]? = some (.cells cur e fz)) (hfz : Mk fz cur.size) (s : ByteArray)
    (hroom : sLen + s.size ≤ sCap) (hfit : sLen + s.size ≤ cur.size) :
    (Builtin.append_ #[t, u] ty #[.slice (some ⟨g, 0, none⟩) sLen sCap, .string s]).run P w =
      .ok (.slice (some ⟨g, 0, none⟩) (sLen + s.size) sCap) (w.setRow g (cur.toList.take sLen ++ Lib.strCells s ++ cur.toList.drop (sLen + s.size)).toArray) := by
  have hf := Lib.run_firstCells_string (P := P) w 1 s
  have hst := run_storeCells_atM P g sLen e fz (Lib.strCells s) 0 cur w hg hfz (by simpa [Lib.strCells_length] using hfit) (Lib.strCells_oneCell s)
  simp only [Nat.add_zero, Lib.strCells_length] at hst
  simp [Builtin.append_, run_underlying ht, run_underlying hu, sizeOf, typeInfo, hi, hs1, Builtin.lenOf, hroom, hf, Addr.add_lit, hst]
def capOf : Value → Nat
  | .slice _ _ c => c
  | _ => 0
/-- v is a slice that reads as l: nil, or the first cells of a row of bytes. -/
def Slot (w : World) (v : Value) (l : List UInt8) : Prop :=
  (v = .slice none 0 0 ∧ l = []) ∨
   ∃ g cap cur, v = .slice (some ⟨g, 0, none⟩) l.length cap ∧ Row w g cur ∧ l.length ≤ cap ∧ cap ≤ cur.size ∧ cap ≤ maxLen ∧ cur.toList.take l.length = Lib.byteCells l
theorem Slot.nil (w : World) : Slot w (.slice none 0 0) [] := .inl ⟨rfl, rfl⟩
theorem Slot.lt {w : World} {v : Value} {l : List UInt8} (h : Slot w v l) {g : Nat} (hg : v.ownBlock = some g) : g < w.heap.size ∧ ∃ cur, Row w g cur := by
  rcases h with ⟨rfl, _⟩ | ⟨g', cap, cur, rfl, hb, _⟩
  · simp [Value.ownBlock] at hg
  · simp [Value.ownBlock] at hg
    subst hg
    exact ⟨hb.lt, cur, hb⟩
theorem Slot.kept {w w' : World} {v : Value} {l : List UInt8} (h : Slot w v l) (hk : ∀ g, v.ownBlock = some g → w'.heap[g]? = w.heap[g]?) : Slot w' v l := by
  rcases h with h | ⟨g, cap, cur, rfl, hb, r⟩
  · exact .inl h
  · exact .inr ⟨g, cap, cur, rfl, hb.keep (hk g rfl), r⟩
theorem Slot.form {w : World} {v : Value} {l : List UInt8} (h : Slot w v l) : ∃ p cap, v = .slice p l.length cap ∧ l.length ≤ cap ∧ cap ≤ maxLen := by
  rcases h with ⟨rfl, rfl⟩ | ⟨g, cap, cur, rfl, _, h1, _, h3, _⟩
  · exact ⟨none, 0, rfl, Nat.le_refl _, by simp⟩
  · exact ⟨_, cap, rfl, h1, h3⟩
/-- Its first k bytes, with any room that it has or less. -/
theorem Slot.first {w : World} {g n cap : Nat} {l : List UInt8} (h : Slot w (.slice (some ⟨g, 0, none⟩) n cap) l) {k c : Nat} (hk : k ≤ l.length) (hc : k ≤ c) (hc2 : c ≤ cap) : Slot w (.slice (some ⟨g, 0, none⟩) k c) (l.take k) := by
  rcases h with ⟨h, _⟩ | ⟨g', cap', cur, e, hb, h1, h2, h3, h4⟩
  · simp at h
  · simp at e
    obtain ⟨rfl, rfl, rfl⟩ := e
    have hl : (l.take k).length = k := by simp; omega
    refine .inr ⟨g, c, cur, by rw [hl], hb, by rw [hl]; exact hc, by omega, by omega, ?_⟩
    rw [hl]
    have e1 : cur.toList.take k = (cur.toList.take l.length).take k := by rw [List.take_take]; congr 1; omega
    rw [e1, h4]
    simp [Lib.byteCells, List.map_take]
/-- Slices of one row: behind a write at the row's place n the shorter ones stand. -/
theorem Slot.shared {w w' : World} {g : Nat} {v : Value} {S : List UInt8} {cur cur' : Array Value} (h : Slot w v S) (hv : v.ownBlock = some g) (hb : Row w g cur) (hb' : Row w' g cur')
    (hs : cur'.size = cur.size) (ht : cur'.toList.take S.length = cur.toList.take S.length) : Slot w' v S := by
  rcases h with ⟨rfl, _⟩ | ⟨g', cap, c0, rfl, hb0, h1, h2, h3, h4⟩
  · simp [Value.ownBlock] at hv
  · simp [Value.ownBlock] at hv
    subst hv
    obtain rfl := hb.uni hb0
    exact .inr ⟨g', cap, cur', rfl, hb', h1, by omega, h3, ht.trans h4⟩

section
variable {P : Program}
/-- 'append(v, s...)': in v's row, or in a new one. -/
theorem run_append_slot (w : World) (t u ty : TypeId) (i : TypeInfo) (ht : P.underlying t = some (.slice 5)) (hu : P.underlying u = some .string) (hi : P.info? 5 = some i) (hz : i.zero = some (.int .u8 0)) (hsize : i.size = 1) (hby : i.bytes = 1)
    (v : Value) (l : List UInt8) (h : Slot w v l) (s : ByteArray) (h63 : l.length + s.size ≤ 100000000) :
    ∃ v' w', (Builtin.append_ #[t, u] ty #[v, .string s]).run P w = .ok v' w' ∧ Slot w' v' (l ++ s.data.toList) ∧ w.grownBy w' v.ownBlock ∧ (v'.ownBlock = v.ownBlock ∨ v'.ownBlock = some w.heap.size) ∧
      (∀ g cur, v.ownBlock = some g → Row w g cur → ∃ cur', Row w' g cur' ∧ cur'.size = cur.size ∧ cur'.toList.take l.length = cur.toList.take l.length ∧ (capOf v = l.length → cur' = cur)) ∧
      (v'.ownBlock = v.ownBlock → capOf v' = capOf v) := by
  have hsl : s.data.toList.length = s.size := by simp
  have hcells : Lib.strCells s = Lib.byteCells s.data.toList := rfl
  have grown : ∀ (old : Nat), old < l.length + s.size → ∀ (row : Option Nat),
      Slot (w.drew.alloc (.cells ((Lib.byteCells l).toArray ++ (Lib.strCells s).toArray ++ Builtin.zeroCells (Value.int .u8 0).cells (grownCap w (l.length + s.size) old 5 - (l.length + s.size))) 5))
        (.slice (some ⟨w.heap.size, 0, none⟩) (l.length + s.size) (grownCap w (l.length + s.size) old 5)) (l ++ s.data.toList) ∧
      w.grownBy (w.drew.alloc (.cells ((Lib.byteCells l).toArray ++ (Lib.strCells s).toArray ++ Builtin.zeroCells (Value.int .u8 0).cells (grownCap w (l.length + s.size) old 5 - (l.length + s.size))) 5)) row := by
    intro old ho row
    have hge := grownCap_ge w (l.length + s.size) old 5
    have hcm : grownCap w (l.length + s.size) old 5 ≤ maxLen := grownCap_le_maxLen w (l.length + s.size) old 5 (by unfold maxLen; omega)
    have hlen : (l ++ s.data.toList).length = l.length + s.size := by rw [List.length_append, hsl]
    refine ⟨.inr ⟨w.heap.size, _, _, by rw [hlen], .plain (heap_alloc_new w.drew _), by rw [hlen]; exact hge, ?_, hcm, ?_⟩, ⟨rfl, rfl, rfl, by simp, fun k hk _ => Below.heap_alloc w.drew _ k hk⟩⟩
    · have hz1 : (Value.int IntKind.u8 0).cells.size = 1 := rfl
      simp only [Array.size_append, List.size_toArray, size_zeroCells, hz1, Lib.byteCells_length, Lib.strCells_length]
      omega
    · rw [hlen]
      simp only [Array.toList_append, List.append_assoc]
      rw [← List.append_assoc, hcells, ← Lib.byteCells_append]
      rw [show l.length + s.size = (Lib.byteCells (l ++ s.data.toList)).length by rw [Lib.byteCells_length, hlen]]
      exact List.take_left
  rcases h with ⟨rfl, rfl⟩ | ⟨g, cap, cur, rfl, hb, h1, h2, h3, h4⟩
  · by_cases hm : s.size = 0
    · have hs0 : s.data.toList = [] := List.eq_nil_of_length_eq_zero (by rw [hsl]; exact hm)
      refine ⟨.slice none 0 0, w, ?_, .inl ⟨rfl, by simp [hs0]⟩, ⟨rfl, rfl, rfl, Nat.le_refl _, fun _ _ _ => rfl⟩, .inl rfl, by simp [Value.ownBlock], fun _ => rfl⟩
      have hf := Lib.run_firstCells_string (P := P) w 1 s
      rw [hm] at hf
      simp [Builtin.append_, run_underlying ht, run_underlying hu, sizeOf, typeInfo, hi, hsize, Builtin.lenOf, hm, hf]
    · have hr := run_append_nil_string (P := P) w t u ty 5 i (.int .u8 0) ht hu hi hz s (by omega) (by omega) (by rw [hby]; omega)
      have e1 : (s.data.map fun b => Value.int .u8 b.toNat) = (Lib.strCells s).toArray := by
        apply Array.ext'
        simp [Lib.strCells]
      rw [e1] at hr
      have hgr := grown 0 (by simp; omega) (Value.ownBlock (.slice none 0 0))
      simp only [List.length_nil, Nat.zero_add, List.nil_append, Lib.byteCells, List.map_nil, Array.empty_append] at hgr ⊢
      exact ⟨_, _, hr, hgr.1, hgr.2, .inr rfl, by simp [Value.ownBlock], by simp [Value.ownBlock]⟩
  · obtain ⟨fz, hmk, hb⟩ := hb
    by_cases hroom : l.length + s.size ≤ cap
    · have hr := run_append_roomM (P := P) w t u ty 5 i ht hu hi hsize g l.length cap cur fz hb hmk s hroom (by omega)
      have hsz : (cur.toList.take l.length ++ Lib.strCells s ++ cur.toList.drop (l.length + s.size)).length = cur.size := by
        simp only [List.length_append, List.length_take, List.length_drop, Lib.strCells_length, Array.length_toList]; omega
      have htl : (cur.toList.take l.length).length = l.length := by simp; omega
      have hlen : (l ++ s.data.toList).length = l.length + s.size := by rw [List.length_append, hsl]
      have hrow := setRow_heap w g cur (cur.toList.take l.length ++ Lib.strCells s ++ cur.toList.drop (l.length + s.size)).toArray 5 _ hb
      refine ⟨_, _, hr, .inr ⟨g, cap, _, by rw [hlen], ⟨fz, by rw [List.size_toArray, hsz]; exact hmk, hrow⟩, by rw [hlen]; exact hroom, by rw [List.size_toArray, hsz]; exact h2, h3, ?_⟩, ⟨rfl, rfl, rfl, by simp, fun k _ hk => setRow_other w g k _ (fun e => hk (by simp [Value.ownBlock, e]))⟩, .inl rfl, ?_, fun _ => rfl⟩
      · rw [hlen, h4, hcells, ← Lib.byteCells_append]
        rw [show l.length + s.size = (Lib.byteCells (l ++ s.data.toList)).length by rw [Lib.byteCells_length, hlen]]
        exact List.take_left
      · intro g' c' hg' hb'
        simp [Value.ownBlock] at hg'
        subst hg'
        obtain rfl := Row.uni ⟨fz, hmk, hb⟩ hb'
        refine ⟨_, ⟨fz, by rw [List.size_toArray, hsz]; exact hmk, hrow⟩, by rw [List.size_toArray, hsz], ?_, ?_⟩
        · simp only [List.append_assoc]
          exact List.take_left' htl
        · intro hc
          simp only [capOf] at hc
          have hs0 : s.size = 0 := by omega
          have hs1 : Lib.strCells s = [] := List.eq_nil_of_length_eq_zero (by rw [Lib.strCells_length]; exact hs0)
          rw [hs1, hs0]
          apply Array.ext'
          simp
    · have hr := Lib.run_append_grow_string (P := P) w t u ty 5 i (.int .u8 0) ht hu hi hz ⟨g, 0, none⟩ l.length cap (Lib.byteCells l) (by rw [Lib.byteCells_length, hsize]; omega) (by
        intro j x hj
        rw [← h4] at hj
        have hc := block_cell (w := w) (i := j) hb
        rw [show (⟨g, 0, none⟩ : Addr).add j = ⟨g, j, none⟩ by unfold Addr.add; split <;> simp_all]
        rw [hc]
        rw [List.getElem?_take] at hj
        split at hj
        · simpa using hj
        · cases hj) s (by omega) (by omega) (by rw [hby]; exact growslice_fits (by omega) (by omega))
      have hgr := grown cap (by omega) (some g)
      refine ⟨_, _, hr, hgr.1, hgr.2, .inr rfl, ?_, ?_⟩
      · intro g' c' hg' hb'
        simp [Value.ownBlock] at hg'
        subst hg'
        exact ⟨c', hb'.keep (Below.heap_alloc w.drew _ g (Array.getElem?_eq_some_iff.1 hb).1), rfl, rfl, fun _ => rfl⟩
      · intro e
        simp [Value.ownBlock] at e
        have := (Array.getElem?_eq_some_iff.1 hb).1
        omega
end
end Go.Proofs.YtmlpkimbcjkbkaaGreatDoor
