/-
  MATHEMATICS of layer 16: how long fields are together, how long the text is that is made of them.
-/
import Derived.Test.YtllbnbnpcogckaaGreatDoorInM
namespace Go.Proofs.YtllbnbnpcogckaaGreatDoor
open Go.RowKit

def sumS (acc : List (Nat × Nat)) : Nat := (acc.map fun x => x.2 - x.1).sum
theorem sumS_snoc (acc : List (Nat × Nat)) (a b : Nat) : sumS (acc ++ [(a, b)]) = sumS acc + (b - a) := by simp [sumS]
def InvS (s : ByteArray) (acc : List (Nat × Nat)) (st : Option Nat) (pos : Nat) : Prop :=
  match st with
  | none => sumS acc ≤ min pos s.size
  | some a => sumS acc ≤ a ∧ a ≤ pos ∧ a ≤ s.size
theorem spans_inv (p : Nat → Bool) (s : ByteArray) : ∀ (f pos : Nat) (st : Option Nat) (acc : List (Nat × Nat)), InvS s acc st pos → ∃ pos', InvS s (Lib.spansFromP p s f pos st acc).1 (Lib.spansFromP p s f pos st acc).2 pos'
  | 0, pos, st, acc, h => ⟨pos, h⟩
  | f + 1, pos, st, acc, h => by
    unfold Lib.spansFromP
    split
    · rename_i hlt
      cases st with
      | none =>
        have h' : sumS acc ≤ min pos s.size := h
        split
        · exact spans_inv p s f _ none acc (show sumS acc ≤ min _ s.size by omega)
        · exact spans_inv p s f _ (some pos) acc ⟨by omega, by omega, by omega⟩
      | some a =>
        have h' : sumS acc ≤ a ∧ a ≤ pos ∧ a ≤ s.size := h
        split
        · refine spans_inv p s f _ none _ (show sumS _ ≤ min _ s.size from ?_)
          rw [sumS_snoc]
          omega
        · exact spans_inv p s f _ (some a) acc ⟨by omega, by omega, by omega⟩
    · exact ⟨pos, h⟩
theorem ext_size (s : ByteArray) (a b : Nat) : (s.extract a b).size ≤ b - a := by simp; omega
theorem gofields_sum (p : Nat → Bool) (s : ByteArray) : ((Lib.goFieldsP p s).map ByteArray.size).sum ≤ s.size := by
  have key : ∀ l : List (Nat × Nat), ((l.map fun x => s.extract x.1 x.2).map ByteArray.size).sum ≤ sumS l := by
    intro l
    induction l with
    | nil => simp [sumS]
    | cons x l ih =>
      have := ext_size s x.1 x.2
      simp only [List.map_cons, List.sum_cons, sumS] at ih ⊢
      omega
  refine Nat.le_trans (key _) ?_
  obtain ⟨pos, h⟩ := spans_inv p s s.size 0 none [] (show sumS [] ≤ _ from by simp [sumS])
  unfold Lib.spansOfP Lib.closeSpans
  generalize (Lib.spansFromP p s s.size 0 none []).1 = acc at *
  cases hst : (Lib.spansFromP p s s.size 0 none []).2 with
  | none =>
    rw [hst] at h
    have h' : sumS acc ≤ min pos s.size := h
    show sumS acc ≤ s.size
    omega
  | some a =>
    rw [hst] at h
    have h' : sumS acc ≤ a ∧ a ≤ pos ∧ a ≤ s.size := h
    show sumS (acc ++ [(a, s.size)]) ≤ s.size
    rw [sumS_snoc]
    omega
def sumC (l : List Ce) : Nat := (l.map fun c => (ctx c).length).sum
theorem sumC_append (a b : List Ce) : sumC (a ++ b) = sumC a + sumC b := by simp [sumC]
theorem sumC_take (l : List Ce) (n : Nat) : sumC (l.take n) ≤ sumC l := by
  have := sumC_append (l.take n) (l.drop n)
  rw [List.take_append_drop] at this
  omega
theorem ctx_z : ctx zc = [] := by rfl
theorem sumC_z : ∀ n : Nat, sumC (List.replicate n zc) = 0
  | 0 => rfl
  | n + 1 => by
    have := sumC_z n
    rw [List.replicate_succ]
    simp only [sumC, List.map_cons, List.sum_cons, ctx_z] at this ⊢
    simpa using this
theorem sumC_sz (l : List Ce) (n : Nat) : sumC (szL l n) ≤ sumC l := by
  unfold szL
  rw [sumC_append, List.drop_replicate, sumC_z]
  have := sumC_take l n
  omega
theorem sumC_set : ∀ (l : List Ce) (j : Nat) (t : Ce), sumC (l.set j t) ≤ sumC l + (ctx t).length
  | [], _, _ => by simp [sumC]
  | a :: l, 0, t => by simp [sumC]; omega
  | a :: l, j + 1, t => by
    have := sumC_set l j t
    simp only [sumC, List.set_cons_succ, List.map_cons, List.sum_cons] at this ⊢
    omega
theorem jk_sum (l : List Ce) (ofs : List UInt8) : ∀ k, (jk l ofs k).length ≤ sumC (l.take k) + k * ofs.length
  | 0 => Nat.zero_le _
  | k + 1 => by
    have h := jk_sum l ofs k
    rw [jk_succ, List.length_append, List.length_append, Nat.succ_mul]
    have h2 : (if k = 0 then ([] : List UInt8) else ofs).length ≤ ofs.length := by split <;> simp
    have h3 : sumC (l.take (k + 1)) = sumC (l.take k) + (ctx (l.getD k zc)).length := by
      rw [List.take_add_one, sumC_append]
      cases hk : l[k]? with
      | none => rw [List.getD_eq_getElem?_getD, hk]; simp [sumC, ctx_z]
      | some c => rw [List.getD_eq_getElem?_getD, hk]; simp [sumC]
    omega
theorem jk_fits (l : List Ce) (ofs : List UInt8) (k : Nat) : (jk l ofs k).length ≤ sumC l + k * ofs.length := by
  have := jk_sum l ofs k
  have := sumC_take l k
  omega
theorem inK_ne (l : List UInt8) : inK l ≠ 1 := by unfold inK; split <;> decide
theorem ctx_in (s : ByteArray) : ctx (inC s) = s.data.toList := by
  unfold ctx strC inC
  simp only
  rw [if_neg (inK_ne _)]
theorem ok_in (s : ByteArray) (h : s.size ≤ 4000) : okc (inC s) := by
  refine ⟨fun e => absurd e (inK_ne _), ?_⟩
  unfold strC inC
  simp only
  rw [if_neg (inK_ne _)]
  exact h
theorem ok_z : okc zc := ⟨(fun e => by cases e), by decide⟩
theorem ok_sz {l : List Ce} (h : ∀ c ∈ l, okc c) (n : Nat) : ∀ c ∈ szL l n, okc c := by
  intro c hc
  unfold szL at hc
  rcases List.mem_append.1 hc with hc | hc
  · exact h c (List.mem_of_mem_take hc)
  · rw [List.eq_of_mem_replicate (List.mem_of_mem_drop hc)]; exact ok_z
theorem ok_set {l : List Ce} (h : ∀ c ∈ l, okc c) (j : Nat) {t : Ce} (ht : okc t) : ∀ c ∈ l.set j t, okc c := by
  intro c hc
  rcases List.mem_or_eq_of_mem_set hc with hc | rfl
  · exact h c hc
  · exact ht
/-- What a text has where blanks part it. -/
theorem sum_blank (s : ByteArray) : sumC ((fieldsB s ⟨#[32]⟩).map inC) ≤ s.size := by
  have e : sumC ((fieldsB s ⟨#[32]⟩).map inC) = ((fieldsB s ⟨#[32]⟩).map ByteArray.size).sum := by
    unfold sumC
    rw [List.map_map]
    congr 1
    apply List.map_congr_left
    intro f _
    show (ctx (inC f)).length = f.size
    rw [ctx_in, ba_sz]
  rw [e]
  unfold fieldsB
  split
  · simp
  · rw [if_pos (by rw [toList_data'])]
    exact gofields_sum _ _
theorem ok_blank (s : ByteArray) (hs : s.size ≤ 4000) : ∀ c ∈ (fieldsB s ⟨#[32]⟩).map inC, okc c := by
  intro c hc
  obtain ⟨f, hf, rfl⟩ := List.mem_map.1 hc
  have := fields_small s ⟨#[32]⟩ f hf
  exact ok_in f (by omega)
end Go.Proofs.YtllbnbnpcogckaaGreatDoor
