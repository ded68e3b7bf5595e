/-
  A LIST OF PARTS WITH ONE TEXT CHANGED: what grows out of it is the same tree just if the text is the same.
-/
import Derived.Test.YtgahamppfdhnaaaDoorAsSame
namespace Go.Proofs.YtgahamppfdhnaaaDoor
open Go.RowKit

theorem sameT_def (t u : T) : sameT t u = (eqB t.op u.op && (eqB t.tx u.tx && sameL t.ks u.ks)) := by
  cases t; rw [sameT]; rfl
mutual
theorem sameT_self : ∀ t : T, sameT t t = true
  | .mk a b c ks => by
    rw [sameT]
    simp only [T.op, T.tx, T.ks, Bool.and_eq_true]
    exact ⟨eqB_iff.2 rfl, eqB_iff.2 rfl, sameL_self ks⟩
theorem sameL_self : ∀ l : List T, sameL l l = true
  | [] => by rw [sameL]; rfl
  | t :: l => by rw [sameL_cons, sameT_self t, sameL_self l]; rfl
end
def setTx (l : List Pa) (i : Nat) (s : ByteArray) : List Pa := l.modify i (fun a => { a with tx := s })
theorem setTx_len (l : List Pa) (i : Nat) (s : ByteArray) : (setTx l i s).length = l.length := by simp [setTx]
theorem setTx_at {l : List Pa} {i j : Nat} {s : ByteArray} (h : j < l.length) : (setTx l i s)[j]'(by rw [setTx_len]; exact h) = if i = j then { l[j] with tx := s } else l[j] := by
  simp only [setTx, List.getElem_modify]
theorem upL_set (l : List Pa) (i : Nat) (s : ByteArray) (k : Nat) : upL (setTx l i s) k = upL l k := by
  by_cases h : k < l.length
  · rw [upL_at h, upL_at (by rw [setTx_len]; exact h), setTx_at h]
    split <;> rfl
  · unfold upL
    rw [List.getElem?_eq_none (l := setTx l i s) (by rw [setTx_len]; omega), List.getElem?_eq_none (l := l) (by omega)]
theorem kidI_set (l : List Pa) (i : Nat) (s : ByteArray) (j : Nat) : kidI (setTx l i s) j = kidI l j := by
  funext k
  unfold kidI
  rw [upL_set]
/-- Where the cut texts are the same, the trees are. -/
theorem growF_set {l : List Pa} {i : Nat} {s : ByteArray} (hi : i < l.length) (h : cutB l[i].tx 20 = cutB s 20) : ∀ n k, growF (setTx l i s) n k = growF l n k
  | 0, _ => rfl
  | n + 1, k => by
    by_cases hk : k < l.length
    · rw [growF, growF, List.getElem?_eq_getElem hk, List.getElem?_eq_getElem (by rw [setTx_len]; exact hk), setTx_at hk, setTx_len, kidI_set]
      have e : (growF (setTx l i s) n) = growF l n := funext fun j => growF_set hi h n j
      rw [e]
      by_cases e2 : i = k
      · subst e2
        simp [h]
      · simp only [if_neg e2]
    · rw [growF, growF, List.getElem?_eq_none (l := setTx l i s) (by rw [setTx_len]; omega), List.getElem?_eq_none (l := l) (by omega)]
theorem sameL_map {f g : Nat → T} : ∀ {m : List Nat}, sameL (m.map f) (m.map g) = true → ∀ k ∈ m, sameT (f k) (g k) = true
  | [], _, k, h => by cases h
  | x :: m, h, k, hk => by
    rw [List.map_cons, List.map_cons, sameL_cons, Bool.and_eq_true] at h
    rcases List.mem_cons.1 hk with rfl | hk
    · exact h.1
    · exact sameL_map h.2 k hk
theorem grow_down {l : List Pa} {i : Nat} {s : ByteArray} (h0 : sameT (growT l 0) (growT (setTx l i s) 0) = true) : ∀ (n k : Nat), k ≤ n → k < l.length → sameT (growT l k) (growT (setTx l i s) k) = true
  | n, 0, _, _ => h0
  | 0, k + 1, hn, _ => by omega
  | n + 1, k + 1, hn, hk => by
    have hup : upL l (k + 1) < k + 1 := by
      rw [upL_at hk]
      unfold upN
      have := Int.natAbs_tmod l[k + 1].up ((k + 1 : Nat) : Int)
      rw [this, Int.natAbs_natCast]
      exact Nat.mod_lt _ (by omega)
    have h1 := grow_down h0 n (upL l (k + 1)) (by omega) (by omega)
    have hu : upL l (k + 1) < l.length := by omega
    rw [growT_eq hu, growT_eq (by rw [setTx_len]; exact hu), sameT_def] at h1
    simp only [T.ks, Bool.and_eq_true] at h1
    have h2 := h1.2.2
    unfold kidsTo at h2
    rw [setTx_len, kidI_set] at h2
    refine sameL_map h2 (k + 1) (List.mem_filter.2 ⟨List.mem_range'_1.2 ⟨by omega, by omega⟩, ?_⟩)
    simp [kidI]
theorem grow_set {l : List Pa} {i : Nat} {s : ByteArray} (hi : i < l.length) : sameT (growT l 0) (growT (setTx l i s) 0) = eqB (cutB l[i].tx 20) (cutB s 20) := by
  rw [Bool.eq_iff_iff]
  constructor
  · intro h
    have h1 := grow_down h i i (Nat.le_refl _) hi
    rw [growT_eq hi, growT_eq (by rw [setTx_len]; exact hi), sameT_def] at h1
    simp only [T.tx, Bool.and_eq_true] at h1
    have h2 := h1.2.1
    rw [setTx_at hi, if_pos rfl] at h2
    exact h2
  · intro h
    have h1 := growF_set hi (eqB_iff.1 h) l.length 0
    unfold growT
    rw [setTx_len, h1]
    exact sameT_self _
theorem setTx_take (l : List Pa) (i n : Nat) (s : ByteArray) : (setTx l i s).take n = setTx (l.take n) i s := by
  apply List.ext_getElem
  · simp [setTx]
  · intro j h1 h2
    have hj : j < l.length := by simp [setTx] at h1; omega
    have hj2 : j < (l.take n).length := by rw [setTx_len] at h2; exact h2
    rw [List.getElem_take, setTx_at hj, setTx_at hj2, List.getElem_take]
theorem treeOf_set {l : List Pa} {i : Nat} {s : ByteArray} (hi : i < l.length) (h30 : i < 30) (hs : s.size ≤ 20) : sameT (treeOf l) (treeOf (setTx l i s)) = eqB (cutB l[i].tx 20) s := by
  unfold treeOf
  rw [if_neg (by omega), if_neg (by rw [setTx_len]; omega), setTx_take]
  have hi2 : i < (l.take 30).length := by rw [List.length_take]; omega
  rw [grow_set hi2]
  have e : cutB s 20 = s := by unfold cutB; rw [if_neg (by omega)]
  rw [e]
  simp
theorem sameT_more (t : T) (x : T) (a b : ByteArray) (c : Int) : sameT t (.mk a b c (t.ks ++ [x])) = false := by
  rw [Bool.eq_false_iff, sameT_def]
  intro h
  simp only [T.ks, Bool.and_eq_true] at h
  have := sameL_len h.2.2
  simp at this
end Go.Proofs.YtgahamppfdhnaaaDoor
