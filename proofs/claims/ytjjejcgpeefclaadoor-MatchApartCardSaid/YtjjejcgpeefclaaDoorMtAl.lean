/-
  CONTRACT of layer 10's All and its iterator: all matches that don't overlap, one behind the other.
-/
import Derived.Test.YtjjejcgpeefclaaDoorMtS5
import Derived.Test.YtjjejcgpeefclaaDoorSeqR
import Derived.Test.YtjjejcgpeefclaaDoorMtW2
namespace Go.Proofs.YtjjejcgpeefclaaDoor
open Go.RowKit
attribute [local go_sem] Oper.semAt_some

/-- From the first place on: what has been handed over, where the search goes on, where the last one ended. -/
inductive Pth (s : ByteArray) (t : RT) : List (Nat × Nat) → Nat → Option Nat → Prop where
  | start : Pth s t [] 0 none
  | skip {pre : List (Nat × Nat)} {a i : Nat} (h : Pth s t pre a (some i)) (hf : FndIs s t a (some (i, i))) : Pth s t pre (i + 1) (some i)
  | take {pre : List (Nat × Nat)} {a i j : Nat} {told : Option Nat} (h : Pth s t pre a told) (hf : FndIs s t a (some (i, j))) (hn : ¬ (i = j ∧ told = some i)) : Pth s t (pre ++ [(i, j)]) (if i = j then j + 1 else j) (some j)
def lastOf (l : List (Nat × Nat)) : Nat := match l.getLast? with | none => 0 | some x => x.2
theorem lastOf_snoc (l : List (Nat × Nat)) (x : Nat × Nat) : lastOf (l ++ [x]) = x.2 := by unfold lastOf; simp
theorem FndIs.facts {s : ByteArray} {t : RT} {a i j : Nat} (h : FndIs s t a (some (i, j))) : a ≤ i ∧ i ≤ j ∧ j ≤ s.size := ⟨h.1, h.2.1.le, h.2.1.1⟩
theorem Pth.inv {s : ByteArray} {t : RT} {pre : List (Nat × Nat)} {a : Nat} {told : Option Nat} (h : Pth s t pre a told) :
    a ≤ s.size + 1 ∧ pre.length ≤ a ∧ ((told = none ∧ pre = [] ∧ a = 0) ∨ (pre ≠ [] ∧ told = some (lastOf pre) ∧ lastOf pre ≤ a)) := by
  induction h with
  | start => exact ⟨by omega, by simp, .inl ⟨rfl, rfl, rfl⟩⟩
  | @skip pre a i h hf ih =>
    have := hf.facts
    obtain ⟨h1, h2, h3⟩ := ih
    refine ⟨by omega, by omega, ?_⟩
    rcases h3 with ⟨h3, _⟩ | ⟨h3, h4, h5⟩
    · cases h3
    · have e := Option.some.inj h4
      exact .inr ⟨h3, by rw [e], by omega⟩
  | @take pre a i j told h hf hn ih =>
    have := hf.facts
    obtain ⟨h1, h2, h3⟩ := ih
    rw [lastOf_snoc]
    refine ⟨?_, ?_, .inr ⟨by simp, rfl, ?_⟩⟩
    · split <;> omega
    · rw [List.length_append, List.length_singleton]
      split <;> omega
    · show j ≤ _
      split <;> omega
/-- How a match stands behind those ahead of it. -/
def Good (s : ByteArray) (pre : List (Nat × Nat)) (x : Nat × Nat) : Prop := lastOf pre ≤ x.1 ∧ x.1 ≤ x.2 ∧ x.2 ≤ s.size ∧ (pre ≠ [] → ¬ (x.1 = x.2 ∧ x.1 = lastOf pre))
theorem Pth.good {s : ByteArray} {t : RT} {xs : List (Nat × Nat)} {a : Nat} {told : Option Nat} (h : Pth s t xs a told) : ∀ pre x, xs = pre ++ [x] → Good s pre x := by
  induction h with
  | start => intro pre x e; exact absurd e (by simp)
  | skip h hf ih => exact ih
  | @take pre a i j told h hf hn ih =>
    intro pre2 x e
    obtain ⟨rfl, e2⟩ := List.append_inj' e rfl
    obtain rfl : (i, j) = x := by simpa using e2
    have h1 := hf.facts
    obtain ⟨_, _, h3⟩ := h.inv
    rcases h3 with ⟨h3, h4, h5⟩ | ⟨h3, h4, h5⟩
    · subst h4
      exact ⟨by simp [lastOf], h1.2.1, h1.2.2, fun h => absurd rfl h⟩
    · refine ⟨by show lastOf pre ≤ i; omega, h1.2.1, h1.2.2, fun _ h6 => hn ⟨h6.1, ?_⟩⟩
      rw [h4, show i = lastOf pre from h6.2]
/-- All have been handed over. -/
def AllS (s : ByteArray) (t : RT) (xs : List (Nat × Nat)) : Prop := ∃ a told, Pth s t xs a told ∧ FndIs s t a none
def AllP (s : ByteArray) (t : RT) (xs : List (Nat × Nat)) : Prop := ∃ a told, Pth s t xs a told
theorem AllP.good {s : ByteArray} {t : RT} {pre : List (Nat × Nat)} {x : Nat × Nat} (h : AllP s t (pre ++ [x])) : Good s pre x := by
  obtain ⟨a, told, h⟩ := h
  exact h.good pre x rfl
theorem Pth.any {s : ByteArray} {t : RT} {xs : List (Nat × Nat)} {a : Nat} {told : Option Nat} (h : Pth s t xs a told) : xs ≠ [] → InIs s t := by
  induction h with
  | start => exact fun h => absurd rfl h
  | skip h hf ih => exact ih
  | take h hf hn ih => exact fun _ => ⟨_, _, hf.2.1⟩
theorem AllS.any {s : ByteArray} {t : RT} {xs : List (Nat × Nat)} (h : AllS s t xs) : xs ≠ [] ↔ InIs s t := by
  obtain ⟨a, told, h, hf⟩ := h
  refine ⟨h.any, fun ⟨i, j, hm⟩ e => ?_⟩
  obtain ⟨_, _, h3⟩ := h.inv
  rcases h3 with ⟨_, _, rfl⟩ | ⟨h3, _⟩
  · exact hf i (Nat.zero_le _) j hm
  · exact h3 e
/-- What the iterator reads. -/
def KpS (bs : Nat) (d : Pd) (t : RT) (s : ByteArray) (g : Nat) (W : World) : Prop :=
  W.heap[bs]? = some (.cells #[.pointer (some ⟨d.p, 0, none⟩), .int .i64 ((0 : Nat) : Int), .int .i64 (s.size : Int), .int .i64 (d.m : Int), .slice (some ⟨g, 0, none⟩) ((s.size - 0 + 1) * d.m) ((s.size - 0 + 1) * d.m)] 65 (0, 0)) ∧ Sn W d t s 0 g
theorem KpS.kept {bs : Nat} {d : Pd} {t : RT} {s : ByteArray} {g : Nat} {W W' : World} (h : KpS bs d t s g W) (hk : ∀ k, k = bs ∨ k = d.p ∨ k = d.t ∨ k = d.a ∨ k = d.h ∨ k = d.f ∨ k = d.l ∨ k = g ∨ k = (0 : Nat) → k < W.heap.size → W'.heap[k]? = W.heap[k]?) : KpS bs d t s g W' :=
  ⟨(hk bs (.inl rfl) (Array.getElem?_eq_some_iff.1 h.1).1).trans h.1, h.2.kept fun k hk2 => hk k (.inr hk2)⟩
theorem KpS.next {bs : Nat} {d : Pd} {t : RT} {s : ByteArray} {g : Nat} {W W' : World} (h : KpS bs d t s g W) (hb : Below W.heap.size W W') : KpS bs d t s g W' := h.kept fun k _ hl => hb.block k hl
theorem pg_loop {W : World} {d : Pd} {t : RT} (h : Pg W d t) {k : Nat} {r : Loop} (hl : W.heap[k]? = some (.loop r)) : k ≠ d.p ∧ k ≠ d.t ∧ k ≠ d.a ∧ k ≠ d.h ∧ k ≠ d.f ∧ k ≠ d.l ∧ k ≠ (0 : Nat) := by
  refine ⟨?_, ?_, ?_, ?_, ?_, ?_, ?_⟩ <;> rintro rfl
  · have := h.prog; rw [hl] at this; cases this
  · have := h.tk; unfold Tb at this; rw [hl] at this; cases this
  · have := h.ah; unfold Tb at this; rw [hl] at this; cases this
  · have := h.bh; unfold Tb at this; rw [hl] at this; cases this
  · have := h.f; unfold Tb at this; rw [hl] at this; cases this
  · have := h.l; unfold Tb at this; rw [hl] at this; cases this
  · have h0 := h.dz 0 (by decide)
    simp [World.cell?, hl] at h0
theorem KpS.put {bs : Nat} {d : Pd} {t : RT} {s : ByteArray} {g : Nat} {W : World} {k : Nat} {r : Loop} (h : KpS bs d t s g W) (hl : W.heap[k]? = some (.loop r)) (x : Obj) : KpS bs d t s g (W.putObj k x) := by
  refine h.kept fun j hj _ => World.putObj_heap_other fun e => ?_
  subst e
  have h2 := pg_loop h.2.pg hl
  rcases hj with rfl | hj
  · have := h.1; rw [hl] at this; cases this
  · rcases hj with hj | hj | hj | hj | hj | hj | hj | hj
    · exact h2.1 hj
    · exact h2.2.1 hj
    · exact h2.2.2.1 hj
    · exact h2.2.2.2.1 hj
    · exact h2.2.2.2.2.1 hj
    · exact h2.2.2.2.2.2.1 hj
    · subst hj
      have := h.2.rows; unfold Tb at this; rw [hl] at this; cases this
    · exact h2.2.2.2.2.2.2 hj
set_option maxHeartbeats 2000000 in
theorem mAll_call (s : ByteArray) (hs : s.size ≤ 1000000) {w : World} {d : Pd} {t : RT} (h : Pg w d t) :
    Calls Tryd.prog 19 #[.pointer (some ⟨d.p, 0, none⟩), .string s] w fun e w' => ∃ bs g, e = .returned (.func (.func 27) #[] #[.pointer (some ⟨bs, 0, none⟩)]) ∧ w.heap.size ≤ bs ∧ w.heap.size ≤ g ∧ KpS bs d t s g w' ∧ Below w.heap.size w w' := by
  have CS := Lib.hid (msee_any s hs 0 (Nat.zero_le _) h)
  clear h
  go_enter Tryd.func19, Tryd.ntmps19
  go_wp2_with fail
  refine CS.out.mono ?_
  rintro e w2 ⟨g, rfl, hsn, hg, hb2⟩
  have HB := Lib.hid hb2
  have HS := Lib.hid hsn
  clear hsn hb2 CS
  unfold seV
  go_wp2_with fail
  go_ret
  have hb3 : Below w2.heap.size w2 (w2.alloc (.cells #[.pointer (some ⟨d.p, 0, none⟩), .int .i64 ((0 : Nat) : Int), .int .i64 (s.size : Int), .int .i64 (d.m : Int), .slice (some ⟨g, 0, none⟩) ((s.size - 0 + 1) * d.m) ((s.size - 0 + 1) * d.m)] 65)) := (Below.refl _ _).alloc (Nat.le_refl _) _
  exact ⟨w2.heap.size, g, rfl, HB.out.size, hg, ⟨mt_heap_new _ _, HS.out.next hb3⟩, HB.out.trans (hb3.mono HB.out.size)⟩
def encP (x : Nat × Nat) : Array Value := #[.int .i64 (x.1 : Int), .int .i64 (x.2 : Int)]
def tdV : Option Nat → Value
  | none => .int .i64 (-1)
  | some b => .int .i64 (b : Int)
end Go.Proofs.YtjjejcgpeefclaaDoor
