/-
  MATHEMATICS of layer 8: where a key lies in a list of entries; a directory of it.
-/
import Derived.Test.YtjnhaglcigpknaaDoorArM
namespace Go.Proofs.YtjnhaglcigpknaaDoor
open Go.RowKit Go.Maps

abbrev En.nm (e : En) : Nm := e.key.data.toList
theorem fnd_nil (n : Nm) : fnd [] n = none := rfl
theorem fnd_cons (e : En) (L : List En) (n : Nm) : fnd (e :: L) n = if e.nm = n then some e.g else fnd L n := by
  unfold fnd
  rw [List.find?_cons]
  by_cases h : e.nm = n
  · have h' : (e.key.data.toList == n) = true := by simpa using h
    rw [h', if_pos h]; rfl
  · have h' : (e.key.data.toList == n) = false := by simpa using h
    rw [h', if_neg h]
theorem fnd_none {n : Nm} : ∀ {L : List En}, fnd L n = none ↔ ∀ e ∈ L, e.nm ≠ n
  | [] => by simp [fnd_nil]
  | e :: L => by
    rw [fnd_cons]
    by_cases h : e.nm = n
    · rw [if_pos h]; simp [h]
    · rw [if_neg h, fnd_none (L := L)]; simp [h]
theorem fnd_some {n : Nm} {g : Nat} : ∀ {L : List En}, fnd L n = some g → ∃ A e B, L = A ++ e :: B ∧ e.nm = n ∧ e.g = g ∧ ∀ x ∈ A, x.nm ≠ n
  | [], h => by rw [fnd_nil] at h; cases h
  | e :: L, h => by
    rw [fnd_cons] at h
    by_cases h1 : e.nm = n
    · rw [if_pos h1] at h
      exact ⟨[], e, L, rfl, h1, Option.some.inj h, by simp⟩
    · rw [if_neg h1] at h
      obtain ⟨A, x, B, rfl, h3, h4, h5⟩ := fnd_some h
      refine ⟨e :: A, x, B, rfl, h3, h4, ?_⟩
      intro y hy
      rcases List.mem_cons.1 hy with rfl | hy
      · exact h1
      · exact h5 y hy
theorem fnd_append (A B : List En) (n : Nm) : fnd (A ++ B) n = (fnd A n).or (fnd B n) := by
  induction A with
  | nil => simp [fnd_nil]
  | cons e A ih =>
    rw [List.cons_append, fnd_cons, fnd_cons, ih]
    by_cases h : e.nm = n
    · rw [if_pos h, if_pos h]; rfl
    · rw [if_neg h, if_neg h]
/-- All blocks apart, all keys apart. -/
def Dis (L : List En) : Prop := (L.map En.g).Nodup ∧ (L.map En.nm).Nodup
theorem Dis.mid {A B : List En} {e : En} (h : Dis (A ++ e :: B)) : (∀ x ∈ A, x.g ≠ e.g ∧ x.nm ≠ e.nm) ∧ (∀ x ∈ B, x.g ≠ e.g ∧ x.nm ≠ e.nm) ∧ Dis (A ++ B) := by
  obtain ⟨h1, h2⟩ := h
  simp only [List.map_append, List.map_cons] at h1 h2
  rw [List.nodup_append] at h1 h2
  obtain ⟨a1, a2, a3⟩ := h1
  obtain ⟨b1, b2, b3⟩ := h2
  rw [List.nodup_cons] at a2 b2
  refine ⟨fun x hx => ⟨a3 _ (List.mem_map_of_mem hx) _ (by simp), b3 _ (List.mem_map_of_mem hx) _ (by simp)⟩, fun x hx => ⟨fun e1 => a2.1 (by rw [← e1]; exact List.mem_map_of_mem hx), fun e1 => b2.1 (by rw [← e1]; exact List.mem_map_of_mem hx)⟩, ?_, ?_⟩
  · rw [List.map_append, List.nodup_append]
    exact ⟨a1, a2.2, fun x hx y hy => a3 x hx y (List.mem_cons_of_mem _ hy)⟩
  · rw [List.map_append, List.nodup_append]
    exact ⟨b1, b2.2, fun x hx y hy => b3 x hx y (List.mem_cons_of_mem _ hy)⟩
theorem Dis.snoc {L : List En} {e : En} (h : Dis L) (hg : ∀ x ∈ L, x.g ≠ e.g) (hn : ∀ x ∈ L, x.nm ≠ e.nm) : Dis (L ++ [e]) := by
  constructor
  · rw [List.map_append, List.nodup_append]
    refine ⟨h.1, by simp, fun x hx y hy => ?_⟩
    obtain ⟨z, hz, rfl⟩ := List.mem_map.1 hx
    simp at hy
    rw [hy]; exact hg z hz
  · rw [List.map_append, List.nodup_append]
    refine ⟨h.2, by simp, fun x hx y hy => ?_⟩
    obtain ⟨z, hz, rfl⟩ := List.mem_map.1 hx
    simp at hy
    rw [hy]; exact hn z hz
theorem fnd_put (A B : List En) (e : En) (t : Ce) (n : Nm) : fnd (A ++ { e with c := t } :: B) n = fnd (A ++ e :: B) n := by
  rw [fnd_append, fnd_append, fnd_cons, fnd_cons]
theorem fnd_del {A B : List En} {e : En} (h : Dis (A ++ e :: B)) (n : Nm) : fnd (A ++ B) n = if n = e.nm then none else fnd (A ++ e :: B) n := by
  obtain ⟨h1, h2, _⟩ := h.mid
  by_cases hn : n = e.nm
  · rw [if_pos hn, hn, fnd_none]
    intro x hx
    rcases List.mem_append.1 hx with hx | hx
    · exact (h1 x hx).2
    · exact (h2 x hx).2
  · rw [if_neg hn, fnd_append, fnd_append, fnd_cons, if_neg (fun e1 => hn e1.symm)]
theorem fnd_snoc {L : List En} {e : En} (hn : ∀ x ∈ L, x.nm ≠ e.nm) (n : Nm) : fnd (L ++ [e]) n = if n = e.nm then some e.g else fnd L n := by
  rw [fnd_append, fnd_cons, fnd_nil]
  by_cases h : n = e.nm
  · rw [if_pos h, if_pos h.symm, fnd_none.2 (by rw [h]; exact hn)]; rfl
  · rw [if_neg h, if_neg (fun e1 => h e1.symm)]
    cases fnd L n <;> rfl
/-! Directories. -/
theorem del_none {D : Dir} {n : Nm} (h : getD D n = none) : delD D n = D := by
  unfold delD
  rw [List.filter_eq_self]
  intro p hp
  simpa using getD_none h p hp
theorem put_len {D : Dir} {n : Nm} (b : Nat) (h : getD D n = none) : (putD D n b).length = D.length + 1 := by
  rw [putD, length_ins, del_none h]
theorem del_len : ∀ {D : Dir} {n : Nm} {b : Nat}, Srt D → getD D n = some b → (delD D n).length + 1 = D.length
  | [], n, b, _, h => by simp [getD] at h
  | x :: r, n, b, hs, h => by
    have h' := List.pairwise_cons.1 hs
    by_cases hx : x.1 = n
    · have hr : delD r n = r := by
        unfold delD
        rw [List.filter_eq_self]
        intro p hp
        have := h'.1 p hp
        have hne : p.1 ≠ n := by
          intro e
          rw [hx, e] at this
          exact nm_irrefl _ this
        simpa using hne
      have : delD (x :: r) n = delD r n := by simp [delD, hx]
      rw [this, hr]; rfl
    · have h2 : getD r n = some b := by
        unfold getD at h ⊢
        rw [List.find?_cons] at h
        have : (x.1 == n) = false := by simpa using hx
        rw [this] at h
        exact h
      have h3 := del_len h'.2 h2
      have : delD (x :: r) n = x :: delD r n := by simp [delD, hx]
      rw [this]
      simp only [List.length_cons]
      omega
end Go.Proofs.YtjnhaglcigpknaaDoor
