/-
  WHAT AN ARRAY IS, seen from outside; CONTRACTS of layer 8's Set, At.
-/
import Derived.Test.YtjnhaglcigpknaaDoorArW2
namespace Go.Proofs.YtjnhaglcigpknaaDoor
open Go.RowKit Go.Maps

abbrev Pr := ByteArray × Ce
def cont (L : List En) : List Pr := L.map fun e => (e.key, e.c)
/-- An array of these keys with these values lies here, in blocks that F has. -/
def AF (F : Nat → Prop) (w : World) (b : Nat) (P : List Pr) : Prop := ∃ mm L, AV w b mm L ∧ cont L = P ∧ ∀ k, Own b mm L k → F k
theorem AF.next {F : Nat → Prop} {w w' : World} {b : Nat} {P : List Pr} (h : AF F w b P) (hb : Below w.heap.size w w') : AF F w' b P := by
  obtain ⟨mm, L, h1, h2, h3⟩ := h
  exact ⟨mm, L, h1.next hb, h2, h3⟩
theorem AF.mono {F G : Nat → Prop} {w : World} {b : Nat} {P : List Pr} (h : AF F w b P) (hG : ∀ k, k < w.heap.size → F k → G k) : AF G w b P := by
  obtain ⟨mm, L, h1, h2, h3⟩ := h
  exact ⟨mm, L, h1, h2, fun k hk => hG k (h1.own_lt hk) (h3 k hk)⟩
theorem Oth.mono {F G : Nat → Prop} {w w' : World} (h : Oth F w w') (hG : ∀ k, F k → G k) : Oth G w w' := ⟨h.os, h.tape, h.output, h.size, fun k hk hn => h.block k hk fun hf => hn (hG k hf)⟩
def putP (P : List Pr) (s : ByteArray) (t : Ce) : List Pr :=
  if ∃ p ∈ P, p.1.data.toList = s.data.toList then P.map (fun p => if p.1.data.toList = s.data.toList then (p.1, t) else p) else P ++ [(s, t)]
theorem cont_len (L : List En) : (cont L).length = L.length := by simp [cont]
theorem putP_mid {A B : List En} {x : En} (hd : Dis (A ++ x :: B)) (t : Ce) : putP (cont (A ++ x :: B)) x.key t = cont (A ++ { x with c := t } :: B) := by
  obtain ⟨hA, hB, _⟩ := hd.mid
  unfold putP
  rw [if_pos ⟨(x.key, x.c), by simp [cont], rfl⟩]
  have key : ∀ (M : List En), (∀ y ∈ M, y.g ≠ x.g ∧ y.nm ≠ x.nm) → (cont M).map (fun p => if p.1.data.toList = x.key.data.toList then (p.1, t) else p) = cont M := by
    intro M hM
    have e : (cont M).map (fun p => if p.1.data.toList = x.key.data.toList then (p.1, t) else p) = (cont M).map id := by
      apply List.map_congr_left
      intro p hp
      obtain ⟨y, hy, rfl⟩ := List.mem_map.1 hp
      exact if_neg (hM y hy).2
    rw [e, List.map_id]
  simp only [cont, List.map_append, List.map_cons] at key ⊢
  rw [key A hA, key B hB]
  simp
theorem putP_new {L : List En} {s : ByteArray} (hn : fnd L s.data.toList = none) (t : Ce) (g : Nat) : putP (cont L) s t = cont (L ++ [⟨s, t, g⟩]) := by
  unfold putP
  rw [if_neg]
  · simp [cont]
  · rintro ⟨p, hp, he⟩
    obtain ⟨e, he1, rfl⟩ := List.mem_map.1 hp
    exact fnd_none.1 hn e he1 he
theorem putP_len (P : List Pr) (s : ByteArray) (t : Ce) : (putP P s t).length ≤ P.length + 1 := by
  unfold putP
  split <;> simp
section
variable {w w' : World} {b : Nat} {mm : Option Nat} {F : Nat → Prop} {P : List Pr}
theorem AV.dis {L : List En} (h : AV w b mm L) : Dis L := ⟨h.nd, h.kd⟩
theorem AV.put {A B : List En} {x : En} (h : AV w b mm (A ++ x :: B)) (t : Ce) : AV (put3 w x.g t) b mm (A ++ { x with c := t } :: B) := by
  obtain ⟨hA, hB, _⟩ := h.dis.mid
  have hxb : b ≠ x.g := Ne.symm (h.enne (e := x) (by simp))
  have hh : ∀ q, hd (A ++ { x with c := t } :: B) q = hd (A ++ x :: B) q := fun q => by cases A <;> rfl
  have hl : ∀ q, lst (A ++ { x with c := t } :: B) q = lst (A ++ x :: B) q := fun q => by rw [lst_append, lst_append]; rfl
  refine ⟨by rw [hh, hl]; exact (put3_other w x.g t hxb).trans h.blk, h.lnk.put (fun y hy => (hA y hy).1) (fun y hy => (hB y hy).1) t, ?_, by have := h.nd; simpa using this, by have := h.kd; simpa using this, by have := h.few; simpa using this⟩
  cases mm with
  | none => have := h.map; simp at this
  | some mn =>
    obtain ⟨D, h1, h2, h3, h4⟩ := h.map
    exact ⟨D, ownsMap_of_block h1 (put3_other w x.g t (Ne.symm (h.enmap (e := x) (by simp)))), h2, by simpa using h3, fun n => (h4 n).trans (fnd_put A B x t n).symm⟩
end
end Go.Proofs.YtjnhaglcigpknaaDoor
