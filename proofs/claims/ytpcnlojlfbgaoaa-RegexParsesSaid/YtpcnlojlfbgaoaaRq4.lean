/-
  MATHEMATICS of the document's own sets (scriberef09.set): a set's items, one by one, over the places of a text.
-/
import Derived.Test.YtpcnlojlfbgaoaaRq3
namespace Go.Proofs.Ytpcnlojlfbgaoaa
open Go.RowKit

theorem rq_drop (s : ByteArray) (q : Nat) (h : q < s.size) : s.data.toList.drop q = s[q] :: s.data.toList.drop (q + 1) := by
  have hl : q < s.data.toList.length := by simpa using h
  rw [List.drop_eq_getElem_cons hl]; rfl
theorem rq_len (s : ByteArray) (q : Nat) : (s.data.toList.drop q).length = s.size - q := by simp
theorem rq_nil (s : ByteArray) (q : Nat) (h : ¬ q < s.size) : s.data.toList.drop q = [] := List.drop_of_length_le (by simp; omega)
theorem nextR_at (s : ByteArray) (q : Nat) (h : q < s.size) : nextR (s.data.toList.drop q) = if s[q] = 92 then (match escO s (q + 1) with | none => .error (s.size - q, 9) | some x => .ok (x, s.data.toList.drop (q + 2))) else .ok (s[q], s.data.toList.drop (q + 1)) := by
  rw [rq_drop s q h]
  unfold nextR
  simp only []
  by_cases h92 : s[q] = 92
  · rw [if_pos h92, if_pos h92]
    unfold escO
    by_cases h2 : q + 1 < s.size
    · rw [dif_pos h2, rq_drop s (q + 1) h2]
      simp only []
      cases escB s[q + 1] with
      | none =>
        simp only []
        rw [rq_len, show s.size - (q + 1 + 1) + 2 = s.size - q by omega]
      | some x => rfl
    · rw [dif_neg h2, rq_nil s (q + 1) h2]
      simp only []
      rw [show s.size - q = 1 by omega]
  · rw [if_neg h92, if_neg h92]
def dashAt (s : ByteArray) (q : Nat) : Bool := if h : q + 1 < s.size then s[q] == 45 && s[q + 1] != 93 else false
theorem dashB_at (s : ByteArray) (q : Nat) : dashB (s.data.toList.drop q) = dashAt s q := by
  unfold dashAt
  by_cases h : q + 1 < s.size
  · rw [dif_pos h, rq_drop s q (by omega), rq_drop s (q + 1) h]; rfl
  · rw [dif_neg h]
    by_cases h2 : q < s.size
    · rw [rq_drop s q h2, rq_nil s (q + 1) h]; rfl
    · rw [rq_nil s q h2]; rfl
def finX (nt : Bool) (X : PR W4) : PR RT := match X with
  | .error x => .error x
  | .ok (s, r) => .ok (.mk 1 (if nt then notW s else s) [], r)
/-- What is still to be read of a set, i items having been read. -/
def SetEq (n : Nat) (nt : Bool) (X : PR RT) (i : Nat) (has : List UInt8) (l : List UInt8) : Prop :=
  (i = 0 ∧ has = [] ∧ X = (match spanR withW n l with | .error x => .error x | .ok (t, r) => finX nt (setLoop withW orW n (r.length + 1) r t))) ∨
  (1 ≤ i ∧ ∃ f S, l.length < f ∧ X = finX nt (setLoop withW orW n f l S) ∧ StF (hasC has) S)
theorem SetEq.start (l : List UInt8) : SetEq (l.length + 1) (decide (l.head? = some 94)) (setR withW notW orW l) 0 [] (if l.head? = some 94 then l.drop 1 else l) := by
  refine .inl ⟨rfl, rfl, ?_⟩
  unfold setR finX
  simp only [decide_eq_true_eq]
  cases spanR withW (l.length + 1) (if l.head? = some 94 then l.drop 1 else l) with
  | error x => rfl
  | ok x =>
    obtain ⟨t, r⟩ := x
    simp only []
    cases setLoop withW orW (l.length + 1) (r.length + 1) r t with
    | error y => rfl
    | ok y => rfl
theorem SetEq.none {n : Nat} {nt : Bool} {X : PR RT} {i : Nat} {has : List UInt8} (h : SetEq n nt X i has []) : X = .error (n, 9) := by
  rcases h with ⟨_, _, h⟩ | ⟨_, f, S, hf, h, _⟩
  · rw [h]; rfl
  · obtain ⟨g, rfl⟩ : ∃ g, f = g + 1 := ⟨f - 1, by simp at hf; omega⟩
    rw [h]; rfl
theorem SetEq.close {n : Nat} {nt : Bool} {X : PR RT} {i : Nat} {has r : List UInt8} (h : SetEq n nt X i has (93 :: r)) (hi : 1 ≤ i) : ∃ S, X = .ok (.mk 1 (if nt then notW S else S) [], r) ∧ StF (hasC has) S := by
  rcases h with ⟨h0, _⟩ | ⟨_, f, S, hf, h, hS⟩
  · omega
  · obtain ⟨g, rfl⟩ : ∃ g, f = g + 1 := ⟨f - 1, by simp at hf; omega⟩
    exact ⟨S, by rw [h]; rfl, hS⟩
theorem SetEq.bad {n : Nat} {nt : Bool} {X : PR RT} {i : Nat} {has r : List UInt8} {c : UInt8} {x : ER} (h : SetEq n nt X i has (c :: r)) (hc : c ≠ 93 ∨ i = 0) (hx : spanR withW n (c :: r) = .error x) : X = .error x := by
  rcases h with ⟨h0, _, h⟩ | ⟨h1, f, S, hf, h, hS⟩
  · rw [h, hx]
  · obtain ⟨g, rfl⟩ : ∃ g, f = g + 1 := ⟨f - 1, by simp at hf; omega⟩
    have hc : c ≠ 93 := hc.resolve_right (by omega)
    rw [h]
    unfold setLoop
    simp only []
    rw [if_neg hc, hx]; rfl
theorem SetEq.more {n : Nat} {nt : Bool} {X : PR RT} {i : Nat} {has r r2 : List UInt8} {c lo hi : UInt8} (h : SetEq n nt X i has (c :: r)) (hc : c ≠ 93 ∨ i = 0) (hx : spanR withW n (c :: r) = .ok (rangeW withW lo hi, r2)) (hl : r2.length ≤ r.length) : SetEq n nt X (i + 1) (has ++ rngL lo.toNat (hi.toNat + 1 - lo.toNat)) r2 := by
  rcases h with ⟨h0, he, h⟩ | ⟨h1, f, S, hf, h, hS⟩
  · subst he
    refine .inr ⟨by omega, r2.length + 1, _, by omega, by rw [h, hx], (rangeW_set lo hi).congr fun z => by simp⟩
  · obtain ⟨g, rfl⟩ : ∃ g, f = g + 1 := ⟨f - 1, by simp at hf; omega⟩
    have hc : c ≠ 93 := hc.resolve_right (by omega)
    simp only [List.length_cons] at hf
    refine .inr ⟨by omega, g, orW S (rangeW withW lo hi), by omega, ?_, (hS.orS (rangeW_set lo hi)).congr fun z => by rw [hasC_app]⟩
    rw [h]
    conv => lhs; unfold setLoop
    simp only []
    rw [if_neg hc, hx]
/-! An item, by places. -/
theorem span_bad1 {n : Nat} {s : ByteArray} {q : Nat} (h : q < s.size) {x : ER} (hx : nextR (s.data.toList.drop q) = .error x) : spanR withW n (s.data.toList.drop q) = .error x := by
  rw [rq_drop s q h] at hx ⊢
  unfold spanR
  simp only []
  rw [hx]
theorem span_one {n : Nat} {s : ByteArray} {q q1 : Nat} (h : q < s.size) {lo : UInt8} (hx : nextR (s.data.toList.drop q) = .ok (lo, s.data.toList.drop q1)) (hd : dashAt s q1 = false) : spanR withW n (s.data.toList.drop q) = .ok (rangeW withW lo lo, s.data.toList.drop q1) := by
  rw [← dashB_at] at hd
  rw [rq_drop s q h] at hx ⊢
  unfold spanR
  simp only []
  rw [hx]
  simp only [hd]
  rfl
theorem span_bad2 {n : Nat} {s : ByteArray} {q q1 : Nat} (h : q < s.size) {lo : UInt8} {x : ER} (hx : nextR (s.data.toList.drop q) = .ok (lo, s.data.toList.drop q1)) (hd : dashAt s q1 = true) (hy : nextR (s.data.toList.drop (q1 + 1)) = .error x) : spanR withW n (s.data.toList.drop q) = .error x := by
  rw [← dashB_at] at hd
  rw [rq_drop s q h] at hx ⊢
  unfold spanR
  simp only []
  rw [hx]
  simp only [hd, if_true]
  rw [List.drop_drop, hy]
theorem span_two {n : Nat} {s : ByteArray} {q q1 q2 : Nat} (h : q < s.size) {lo hi : UInt8} (hx : nextR (s.data.toList.drop q) = .ok (lo, s.data.toList.drop q1)) (hd : dashAt s q1 = true) (hy : nextR (s.data.toList.drop (q1 + 1)) = .ok (hi, s.data.toList.drop q2)) :
    spanR withW n (s.data.toList.drop q) = if hi < lo then .error (n, 9) else .ok (rangeW withW lo hi, s.data.toList.drop q2) := by
  rw [← dashB_at] at hd
  rw [rq_drop s q h] at hx ⊢
  unfold spanR
  simp only []
  rw [hx]
  simp only [hd, if_true]
  rw [List.drop_drop, hy]
end Go.Proofs.Ytpcnlojlfbgaoaa
