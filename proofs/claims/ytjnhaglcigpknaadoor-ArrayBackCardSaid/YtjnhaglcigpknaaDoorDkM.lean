/-
  MATHEMATICS of the disk: names with numbers of files, rising; what a map of pointers reads as.
-/
import Derived.Test.YtjnhaglcigpknaaDoorRows
import Derived.WalkKit
import Derived.WalkSpells
import Derived.WalkLawsBesides
import Derived.Maps.Own
import Derived.Maps.Views
import Derived.Maps.OwnSet
import Derived.Maps.Ext
import Derived.Below
namespace Go.Proofs.YtjnhaglcigpknaaDoor
open Go.RowKit Go.Maps

abbrev Nm := List UInt8
abbrev Dir := List (Nm × Nat)

theorem bytesBefore_lt : ∀ a b : List UInt8, bytesBefore a b = decide (a < b)
  | [], [] => by simp [bytesBefore]
  | [], _ :: _ => by simp [bytesBefore]
  | _ :: _, [] => by simp [bytesBefore]
  | a :: r, b :: s => by
    unfold bytesBefore
    rw [bytesBefore_lt r s]
    simp only [List.cons_lt_cons_iff]
    by_cases h : a < b <;> by_cases h2 : a = b <;> simp [h, h2]

def ins (n : Nm) (b : Nat) : Dir → Dir
  | [] => [(n, b)]
  | x :: r => if n < x.1 then (n, b) :: x :: r else x :: ins n b r
def delD (l : Dir) (n : Nm) : Dir := l.filter (fun p => p.1 != n)
def putD (l : Dir) (n : Nm) (b : Nat) : Dir := ins n b (delD l n)
def getD (l : Dir) (n : Nm) : Option Nat := (l.find? (fun p => p.1 == n)).map (·.2)
def Srt (l : Dir) : Prop := l.Pairwise (fun a b => a.1 < b.1)

/-- What a map of pointers reads as. -/
def ent (p : Nm × Nat) : Lit × DataW Unit := (.string p.1, .lit (.int .i64 p.2))
def dat (l : Dir) : DataW Unit := .map (l.map ent)
def ptrE : Value → Option (DataW Unit × List MemPlace)
  | .pointer none => some (.nil, [])
  | .pointer (some ⟨b, 0, none⟩) => some (.lit (.int .i64 b), [])
  | _ => none
theorem ptrE_none : ptrE (.pointer none) = some (.nil, []) := rfl
theorem ptrE_some (b : Nat) : ptrE (.pointer (some ⟨b, 0, none⟩)) = some (.lit (.int .i64 b), []) := rfl
theorem ptrE_inv {v : Value} {z : DataW Unit × List MemPlace} (h : ptrE v = some z) : (v = .pointer none ∧ z = (.nil, [])) ∨ ∃ b : Nat, v = .pointer (some ⟨b, 0, none⟩) ∧ z = (.lit (.int .i64 b), []) := by
  unfold ptrE at h
  split at h
  · cases h; exact .inl ⟨rfl, rfl⟩
  · cases h; exact .inr ⟨_, rfl, rfl⟩
  · cases h
theorem ptrE_nil {v : Value} {ps : List MemPlace} (h : ptrE v = some (.nil, ps)) : v = .pointer none := by
  rcases ptrE_inv h with ⟨rfl, _⟩ | ⟨b, rfl, e⟩
  · rfl
  · simp at e
theorem ptrE_lit {v : Value} {ps : List MemPlace} {b : Nat} (h : ptrE v = some (.lit (.int .i64 b), ps)) : v = .pointer (some ⟨b, 0, none⟩) := by
  rcases ptrE_inv h with ⟨rfl, e⟩ | ⟨b', rfl, e⟩
  · simp at e
  · simp at e; obtain ⟨e, _⟩ := e; have e' : b = b' := by omega
    rw [e']

theorem insert_ent (n : Nm) (b : Nat) : ∀ l : Dir, DataW.insert (ent (n, b)) (l.map ent) = (ins n b l).map ent
  | [] => rfl
  | x :: r => by
    simp only [List.map_cons, DataW.insert, ins]
    have e : Lit.before (ent (n, b)).1 (ent x).1 = decide (n < x.1) := by simp [ent, Lit.before, bytesBefore_lt]
    rw [e]
    by_cases h : n < x.1
    · simp [h]
    · simp [h, insert_ent n b r]
theorem filter_ent (l : Dir) (n : Nm) : (l.map ent).filter (fun p => !p.1.sameKey (.string n)) = (delD l n).map ent := by
  induction l with
  | nil => rfl
  | cons x r ih =>
    simp only [delD] at ih ⊢
    simp only [List.map_cons, List.filter_cons]
    have e : (ent x).1.sameKey (.string n) = (x.1 == n) := by simp [ent, Lit.sameKey]
    rw [e, ih]
    by_cases h : x.1 = n <;> simp [h]
theorem dat_put (l : Dir) (n : Nm) (b : Nat) : (dat l).put (.string n) (.lit (.int .i64 b)) = dat (putD l n b) := by
  unfold dat DataW.put putD
  simp only []
  rw [filter_ent]
  exact congrArg DataW.map (insert_ent n b _)
theorem dat_del (l : Dir) (n : Nm) : (dat l).del (.string n) = dat (delD l n) := by
  unfold dat DataW.del
  simp only []
  rw [filter_ent]
theorem dat_get (l : Dir) (n : Nm) : (dat l).atKey (.string n) .nil = (match getD l n with | some b => .lit (.int .i64 b) | none => .nil) := by
  unfold dat DataW.atKey getD
  simp only []
  induction l with
  | nil => rfl
  | cons x r ih =>
    simp only [List.map_cons, List.find?_cons]
    have e : (ent x).1.sameKey (.string n) = (x.1 == n) := by simp [ent, Lit.sameKey]
    rw [e]
    by_cases h : x.1 = n
    · simp [h, ent]
    · have hf : (x.1 == n) = false := by simpa using h
      rw [hf]; exact ih
theorem dat_size (l : Dir) : Maps.size (dat l) = l.length := by simp [dat, Maps.size]
theorem dat_has (l : Dir) (n : Nm) : Maps.has (dat l) (.string n) = (getD l n).isSome := by
  unfold dat Maps.has getD
  simp only []
  induction l with
  | nil => rfl
  | cons x r ih =>
    simp only [List.map_cons, List.any_cons, List.find?_cons, ih]
    have e : (ent x).1.sameKey (.string n) = (x.1 == n) := by simp [ent, Lit.sameKey]
    rw [e]
    by_cases h : x.1 = n
    · simp [h]
    · have hf : (x.1 == n) = false := by simpa using h
      rw [hf]; simp

/-! ### sorted lists of names -/
theorem nm_trans {a b c : Nm} (h : a < b) (k : b < c) : a < c := List.lt_trans h k
theorem nm_irrefl (a : Nm) : ¬ a < a := List.lt_irrefl a
theorem nm_tri {a b : Nm} (h : ¬ a < b) (h2 : a ≠ b) : b < a := by
  rcases List.le_total a b with k | k
  · exact absurd (Std.lt_of_le_of_ne k h2) h
  · exact Std.lt_of_le_of_ne k (Ne.symm h2)
theorem Srt.del {l : Dir} (h : Srt l) (n : Nm) : Srt (delD l n) := List.Pairwise.filter _ h
theorem mem_ins {n : Nm} {b : Nat} {x : Nm × Nat} : ∀ {l : Dir}, x ∈ ins n b l ↔ x = (n, b) ∨ x ∈ l
  | [] => by simp [ins]
  | y :: r => by
    unfold ins
    split
    · simp
    · simp only [List.mem_cons, mem_ins (l := r)]
      constructor
      · rintro (h | h | h) <;> simp [h]
      · rintro (h | h | h) <;> simp [h]
theorem mem_delD {l : Dir} {n : Nm} {x : Nm × Nat} : x ∈ delD l n ↔ x ∈ l ∧ x.1 ≠ n := by simp [delD]
theorem mem_putD {l : Dir} {n : Nm} {b : Nat} {x : Nm × Nat} : x ∈ putD l n b ↔ x = (n, b) ∨ (x ∈ l ∧ x.1 ≠ n) := by
  rw [putD, mem_ins, mem_delD]
theorem Srt.ins {n : Nm} {b : Nat} : ∀ {l : Dir}, Srt l → (∀ p ∈ l, p.1 ≠ n) → Srt (ins n b l)
  | [], _, _ => by simp [Srt, YtjnhaglcigpknaaDoor.ins]
  | x :: r, h, hn => by
    have h' := List.pairwise_cons.1 h
    unfold YtjnhaglcigpknaaDoor.ins
    split
    · rename_i hlt
      refine List.pairwise_cons.2 ⟨?_, h⟩
      intro y hy
      rcases List.mem_cons.1 hy with rfl | hy
      · exact hlt
      · exact nm_trans hlt (h'.1 y hy)
    · rename_i hlt
      refine List.pairwise_cons.2 ⟨?_, Srt.ins h'.2 (fun p hp => hn p (by simp [hp]))⟩
      intro y hy
      rcases mem_ins.1 hy with rfl | hy
      · exact nm_tri hlt (fun e => hn x (by simp) e.symm)
      · exact h'.1 y hy
theorem Srt.put {l : Dir} (h : Srt l) (n : Nm) (b : Nat) : Srt (putD l n b) := (h.del n).ins (fun _ hp => (mem_delD.1 hp).2)
theorem length_ins (n : Nm) (b : Nat) : ∀ l : Dir, (ins n b l).length = l.length + 1
  | [] => rfl
  | x :: r => by
    unfold ins
    split
    · rfl
    · simp [length_ins n b r]
theorem length_delD (l : Dir) (n : Nm) : (delD l n).length ≤ l.length := List.length_filter_le _ _
theorem length_putD (l : Dir) (n : Nm) (b : Nat) : (putD l n b).length ≤ l.length + 1 := by
  rw [putD, length_ins]
  have := length_delD l n
  omega
theorem getD_mem {l : Dir} {n : Nm} {b : Nat} (h : getD l n = some b) : (n, b) ∈ l := by
  unfold getD at h
  cases hf : l.find? (fun p => p.1 == n) with
  | none => rw [hf] at h; cases h
  | some x =>
    rw [hf] at h
    simp at h
    have h1 := List.find?_some hf
    have h2 := List.mem_of_find?_eq_some hf
    simp at h1
    subst h h1
    exact h2
theorem getD_none {l : Dir} {n : Nm} (h : getD l n = none) : ∀ p ∈ l, p.1 ≠ n := by
  intro p hp e
  unfold getD at h
  simp at h
  have := h p.1 p.2 hp
  exact this e
theorem getD_of_mem {l : Dir} (hs : Srt l) {n : Nm} {b : Nat} (h : (n, b) ∈ l) : getD l n = some b := by
  cases hg : getD l n with
  | none => exact absurd rfl (getD_none hg _ h)
  | some c =>
    have hc := getD_mem hg
    by_cases e : c = b
    · rw [e]
    · exfalso
      have : ∀ {l : Dir}, Srt l → (n, b) ∈ l → (n, c) ∈ l → False := by
        intro l hs hb hc
        induction l with
        | nil => cases hb
        | cons x r ih =>
          have h' := List.pairwise_cons.1 hs
          rcases List.mem_cons.1 hb with h1 | h1 <;> rcases List.mem_cons.1 hc with h2 | h2
          · rw [← h1] at h2; simp at h2; exact e h2
          · exact nm_irrefl n (by have := h'.1 (n, c) h2; rw [← h1] at this; exact this)
          · exact nm_irrefl n (by have := h'.1 (n, b) h1; rw [← h2] at this; exact this)
          · exact ih h'.2 h1 h2
      exact this hs h hc
theorem getD_put_same (l : Dir) (hs : Srt l) (n : Nm) (b : Nat) : getD (putD l n b) n = some b := getD_of_mem (hs.put n b) (mem_putD.2 (.inl rfl))
theorem getD_put_other (l : Dir) (hs : Srt l) {n m : Nm} (b : Nat) (h : m ≠ n) : getD (putD l n b) m = getD l m := by
  cases hg : getD l m with
  | some c => exact getD_of_mem (hs.put n b) (mem_putD.2 (.inr ⟨getD_mem hg, h⟩))
  | none =>
    cases hp : getD (putD l n b) m with
    | none => rfl
    | some c =>
      rcases mem_putD.1 (getD_mem hp) with e | ⟨e, _⟩
      · simp at e; exact absurd e.1 h
      · exact absurd rfl (getD_none hg _ e)
theorem getD_del_same (l : Dir) (n : Nm) : getD (delD l n) n = none := by
  cases hp : getD (delD l n) n with
  | none => rfl
  | some c => exact absurd rfl (mem_delD.1 (getD_mem hp)).2
theorem getD_del_other (l : Dir) (hs : Srt l) {n m : Nm} (h : m ≠ n) : getD (delD l n) m = getD l m := by
  cases hg : getD l m with
  | some c => exact getD_of_mem (hs.del n) (mem_delD.2 ⟨getD_mem hg, h⟩)
  | none =>
    cases hp : getD (delD l n) m with
    | none => rfl
    | some c => exact absurd rfl (getD_none hg _ (mem_delD.1 (getD_mem hp)).1)
theorem sorted_names {l : Dir} (hs : Srt l) {ss : List Nm} (h : ss.Perm (l.map (·.1))) : ss.mergeSort (fun x y => decide (x ≤ y)) = l.map (·.1) := by
  have hp : (ss.mergeSort (fun x y => decide (x ≤ y))).Perm (l.map (·.1)) := (List.mergeSort_perm _ _).trans h
  have h1 : (ss.mergeSort (fun x y => decide (x ≤ y))).Pairwise (fun a b => a ≤ b) := by
    have := List.pairwise_mergeSort (le := fun x y : Nm => decide (x ≤ y)) (by intro a b c; simp; exact fun h k => List.le_trans h k) (by intro a b; simp; exact List.le_total a b) ss
    exact this.imp (by intro a b h; simpa using h)
  have h2 : (l.map (·.1)).Pairwise (fun a b => a ≤ b) := by
    rw [List.pairwise_map]
    exact hs.imp (fun h => List.le_of_lt h)
  exact hp.eq_of_pairwise (fun a b _ _ x y => List.le_antisymm x y) h1 h2
end Go.Proofs.YtjnhaglcigpknaaDoor
