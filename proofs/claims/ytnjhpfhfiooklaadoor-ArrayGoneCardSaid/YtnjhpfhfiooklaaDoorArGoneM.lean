/-
  KEYS TAKEN OUT ONE BY ONE, from the front or from the back.
-/
import Derived.Test.YtnjhpfhfiooklaaDoorArLastW
namespace Go.Proofs.YtnjhpfhfiooklaaDoor
open Go.RowKit Go.Maps

def kdP (P : List Pr) : Prop := (P.map fun p => p.1.data.toList).Nodup
theorem AA.kd {w0 W : World} {b : Nat} {P : List Pr} (h : AA w0 W b P) : kdP P := by
  obtain ⟨mm, L, h1, rfl, _⟩ := h.af
  have e : (cont L).map (fun p => p.1.data.toList) = L.map fun e => e.key.data.toList := by simp [cont]
  unfold kdP
  rw [e]
  exact h1.kd
theorem del_head {x : Pr} {B : List Pr} (h : kdP (x :: B)) : delP (x :: B) x.1 = B := by
  have h1 : ∀ p ∈ B, ¬ p.1.data.toList = x.1.data.toList := fun p hp he => by
    have := List.nodup_cons.1 (show ((x.1.data.toList) :: B.map fun p => p.1.data.toList).Nodup from h)
    exact this.1 (he ▸ List.mem_map.2 ⟨p, hp, rfl⟩)
  unfold delP
  rw [List.filter_cons, if_neg (by simp)]
  exact List.filter_eq_self.2 fun p hp => by simpa using fun he => h1 p hp (congrArg Array.toList he)
theorem del_last {x : Pr} {A : List Pr} (h : kdP (A ++ [x])) : delP (A ++ [x]) x.1 = A := by
  have h1 : ∀ p ∈ A, ¬ p.1.data.toList = x.1.data.toList := fun p hp he => by
    have h2 : (A.map (fun p => p.1.data.toList) ++ [x.1.data.toList]).Nodup := by
      have h3 := h
      unfold kdP at h3
      rwa [List.map_append] at h3
    have := (List.nodup_append.1 h2).2.2 _ (List.mem_map.2 ⟨p, hp, rfl⟩) _ (List.mem_singleton.2 rfl)
    exact this he
  unfold delP
  rw [List.filter_append, List.filter_cons, if_neg (by simp), List.filter_nil, List.append_nil]
  exact List.filter_eq_self.2 fun p hp => by simpa using fun he => h1 p hp (congrArg Array.toList he)
theorem has_head (x : Pr) (B : List Pr) : hasP (x :: B) x.1 = true := by simp [hasP]
theorem has_last (x : Pr) (A : List Pr) : hasP (A ++ [x]) x.1 = true := by simp [hasP]
/-- What is left behind k of them. -/
def restP (back : Bool) (P : List Pr) (k : Nat) : List Pr := if back then P.take (P.length - k) else P.drop k
def idxP (back : Bool) (n k : Nat) : Nat := if back then n - 1 - k else k
theorem rest_zero (back : Bool) (P : List Pr) : restP back P 0 = P := by
  cases back <;> simp [restP]
theorem rest_len (back : Bool) (P : List Pr) (k : Nat) : (restP back P k).length = P.length - k := by
  cases back
  · simp [restP]
  · simp [restP]
theorem idx_lt (back : Bool) {n k : Nat} (h : k < n) : idxP back n k < n := by
  cases back <;> simp [idxP] <;> omega
theorem rest_step (back : Bool) {P : List Pr} (hd : kdP P) {k : Nat} (hk : k < P.length) (hi : idxP back P.length k < P.length) :
    delP (restP back P k) (P[idxP back P.length k]).1 = restP back P (k + 1) ∧ hasP (restP back P k) (P[idxP back P.length k]).1 = true := by
  cases back with
  | false =>
    show delP (P.drop k) P[k].1 = P.drop (k + 1) ∧ hasP (P.drop k) P[k].1 = true
    have h2 : kdP (P.drop k) := List.Nodup.sublist (List.Sublist.map _ (List.drop_sublist k P)) hd
    rw [List.drop_eq_getElem_cons hk] at h2 ⊢
    exact ⟨del_head h2, has_head _ _⟩
  | true =>
    have hj : P.length - 1 - k < P.length := by omega
    show delP (P.take (P.length - k)) P[P.length - 1 - k].1 = P.take (P.length - (k + 1)) ∧ hasP (P.take (P.length - k)) P[P.length - 1 - k].1 = true
    have e1 : P.length - k = (P.length - 1 - k) + 1 := by omega
    have e2 : P.length - (k + 1) = P.length - 1 - k := by omega
    have h2 : kdP (P.take (P.length - k)) := List.Nodup.sublist (List.Sublist.map _ (List.take_sublist _ P)) hd
    rw [e1, List.take_succ_eq_append_getElem hj] at h2
    rw [e1, e2, List.take_succ_eq_append_getElem hj]
    exact ⟨del_last h2, has_last _ _⟩
end Go.Proofs.YtnjhpfhfiooklaaDoor
