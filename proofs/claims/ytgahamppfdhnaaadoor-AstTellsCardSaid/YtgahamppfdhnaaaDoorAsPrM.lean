/-
  TREES THAT PRINT THE SAME ARE THE SAME, of Ops of small letters and texts of at most 20 bytes.
-/
import Derived.Test.YtgahamppfdhnaaaDoorAsLeftW
import Derived.Test.YtgahamppfdhnaaaDoorAsOtM
namespace Go.Proofs.YtgahamppfdhnaaaDoor
open Go.RowKit

def ltr (c : UInt8) : Bool := decide (97 ≤ c.toNat) && decide (c.toNat ≤ 122)
def ltrs (s : ByteArray) : Bool := s.data.toList.all ltr
def dgt (c : UInt8) : Bool := decide (48 ≤ c.toNat) && decide (c.toNat ≤ 57)
mutual
def OkP : T → Prop
  | .mk op tx _ ks => ltrs op = true ∧ tx.size ≤ 20 ∧ OkPL ks
def OkPL : List T → Prop
  | [] => True
  | t :: l => OkP t ∧ OkPL l
end
theorem OkPL.of : ∀ {l : List T}, (∀ t ∈ l, OkP t) → OkPL l
  | [], _ => by rw [OkPL]; trivial
  | x :: l, h => by rw [OkPL]; exact ⟨h x (by simp), OkPL.of fun t ht => h t (List.mem_cons_of_mem _ ht)⟩
theorem itoa_dgt : ∀ n : Fin 21, (Lib.itoa (n.val : Int)).all dgt = true ∧ (Lib.itoa (n.val : Int)).isEmpty = false := by decide +kernel
theorem itoa_inj20 : ∀ n m : Fin 21, Lib.itoa (n.val : Int) = Lib.itoa (m.val : Int) → n.val = m.val := by decide +kernel
theorem span_eq {p : UInt8 → Bool} {c d : UInt8} (hc : p c = false) (hd : p d = false) : ∀ {a b x y : List UInt8}, a.all p = true → b.all p = true → a ++ c :: x = b ++ d :: y → a = b ∧ c :: x = d :: y
  | [], [], x, y, _, _, h => ⟨rfl, h⟩
  | [], b :: m, x, y, _, hb, h => by
    simp at h hb
    rw [h.1, hb.1] at hc; cases hc
  | a :: l, [], x, y, ha, _, h => by
    simp at h ha
    rw [← h.1, ha.1] at hd; cases hd
  | a :: l, b :: m, x, y, ha, hb, h => by
    simp only [List.all_cons, Bool.and_eq_true] at ha hb
    simp only [List.cons_append, List.cons.injEq] at h
    obtain ⟨h1, h2⟩ := span_eq hc hd ha.2 hb.2 h.2
    exact ⟨by rw [h.1, h1], h2⟩
theorem kids_head (ks : List T) (r : List UInt8) : ∃ c x, kidsL ks ++ 41 :: r = c :: x ∧ (c = 41 ∨ (c = 32 ∧ ∃ y, x = 40 :: y)) := by
  cases ks with
  | nil => exact ⟨41, r, by rw [kidsL]; rfl, .inl rfl⟩
  | cons t l =>
    obtain ⟨op, tx, pl, ks⟩ := t
    refine ⟨32, _, by rw [kidsL, printL]; rfl, .inr ⟨rfl, _, rfl⟩⟩
theorem tl_head (tx : ByteArray) (ks : List T) (r : List UInt8) : ∃ c x, textL tx ++ (kidsL ks ++ 41 :: r) = c :: x ∧ ltr c = false := by
  unfold textL
  split
  · obtain ⟨c, x, h, h2⟩ := kids_head ks r
    refine ⟨c, x, h, ?_⟩
    rcases h2 with rfl | ⟨rfl, _⟩ <;> decide
  · exact ⟨32, _, rfl, by decide⟩
theorem text_eq {tx tx' : ByteArray} {ks ks' : List T} {r s : List UInt8} (h1 : tx.size ≤ 20) (h2 : tx'.size ≤ 20) (h : textL tx ++ (kidsL ks ++ 41 :: r) = textL tx' ++ (kidsL ks' ++ 41 :: s)) : tx.data.toList = tx'.data.toList ∧ kidsL ks ++ 41 :: r = kidsL ks' ++ 41 :: s := by
  have hz : ∀ t : ByteArray, t.size = 0 → t.data.toList = [] := fun t ht => by
    have : t.data.toList.length = 0 := by simpa using ht
    exact List.eq_nil_of_length_eq_zero this
  have hno : ∀ (ks : List T) (r : List UInt8) (n : Fin 21) (z : List UInt8), kidsL ks ++ 41 :: r = 32 :: (Lib.itoa (n.val : Int) ++ z) → False := fun ks r n z h => by
    obtain ⟨c, x, e1, e2⟩ := kids_head ks r
    rw [e1] at h
    have hd := (itoa_dgt n).1
    have hn := (itoa_dgt n).2
    cases hi : Lib.itoa (n.val : Int) with
    | nil => rw [hi] at hn; cases hn
    | cons b l =>
      rw [hi] at h hd
      simp only [List.cons_append, List.cons.injEq, List.all_cons, Bool.and_eq_true] at h hd
      rcases e2 with rfl | ⟨rfl, y, rfl⟩
      · exact absurd h.1 (by decide)
      · simp only [List.cons.injEq] at h
        rw [← h.2.1] at hd
        exact absurd hd.1 (by decide)
  unfold textL at h
  by_cases a : tx.size = 0 <;> by_cases b : tx'.size = 0
  · rw [if_pos a, if_pos b] at h
    exact ⟨by rw [hz _ a, hz _ b], h⟩
  · rw [if_pos a, if_neg b] at h
    exact (hno ks r ⟨tx'.size, by omega⟩ _ (by simpa using h)).elim
  · rw [if_neg a, if_pos b] at h
    exact (hno ks' s ⟨tx.size, by omega⟩ _ (by simpa using h.symm)).elim
  · rw [if_neg a, if_neg b] at h
    simp only [List.cons_append, List.append_assoc, List.cons.injEq, true_and] at h
    obtain ⟨e1, e2⟩ := span_eq (p := dgt) (by decide) (by decide) (itoa_dgt ⟨tx.size, by omega⟩).1 (itoa_dgt ⟨tx'.size, by omega⟩).1 h
    have e3 := itoa_inj20 ⟨tx.size, by omega⟩ ⟨tx'.size, by omega⟩ e1
    simp only [List.cons.injEq, true_and] at e2
    exact List.append_inj e2 (by simpa using e3)
theorem bytes_ext {x y : ByteArray} (h : x.data.toList = y.data.toList) : x = y := by
  cases x; cases y
  simp only at h
  rw [Array.toList_inj.1 h]
mutual
theorem printL_inj : ∀ (t u : T) (r s : List UInt8), OkP t → OkP u → printL t ++ r = printL u ++ s → sameT t u = true ∧ r = s
  | .mk op tx pl ks, .mk op' tx' pl' ks', r, s, h1, h2, h => by
    rw [OkP] at h1 h2
    rw [printL, printL] at h
    simp only [List.cons_append, List.append_assoc, List.cons.injEq, true_and, List.nil_append] at h
    obtain ⟨c, x, e1, e2⟩ := tl_head tx ks r
    obtain ⟨d, y, f1, f2⟩ := tl_head tx' ks' s
    rw [e1, f1] at h
    obtain ⟨ho, hx⟩ := span_eq e2 f2 h1.1 h2.1 h
    rw [← e1, ← f1] at hx
    obtain ⟨ht, hk⟩ := text_eq h1.2.1 h2.2.1 hx
    obtain ⟨hs, hr⟩ := kidsL_inj ks ks' r s h1.2.2 h2.2.2 hk
    refine ⟨?_, hr⟩
    rw [sameT]
    simp only [T.op, T.tx, T.ks, Bool.and_eq_true]
    exact ⟨eqB_iff.2 (bytes_ext ho), eqB_iff.2 (bytes_ext ht), hs⟩
theorem kidsL_inj : ∀ (l m : List T) (r s : List UInt8), OkPL l → OkPL m → kidsL l ++ 41 :: r = kidsL m ++ 41 :: s → sameL l m = true ∧ r = s
  | [], [], r, s, _, _, h => by
    rw [kidsL] at h
    exact ⟨by rw [sameL]; rfl, by simpa using h⟩
  | [], u :: m, r, s, _, _, h => by
    rw [kidsL, kidsL] at h
    simp only [List.nil_append, List.cons_append, List.cons.injEq] at h
    exact absurd h.1 (by decide)
  | t :: l, [], r, s, _, _, h => by
    rw [kidsL, kidsL] at h
    simp only [List.nil_append, List.cons_append, List.cons.injEq] at h
    exact absurd h.1 (by decide)
  | t :: l, u :: m, r, s, h1, h2, h => by
    rw [OkPL] at h1 h2
    rw [kidsL, kidsL] at h
    simp only [List.cons_append, List.append_assoc, List.cons.injEq, true_and] at h
    obtain ⟨a1, a2⟩ := printL_inj t u _ _ h1.1 h2.1 h
    obtain ⟨b1, b2⟩ := kidsL_inj l m r s h1.2 h2.2 a2
    exact ⟨by rw [sameL_cons, a1, b1]; rfl, b2⟩
end
mutual
theorem same_print : ∀ (t u : T), sameT t u = true → printL t = printL u
  | .mk op tx pl ks, .mk op' tx' pl' ks', h => by
    rw [sameT] at h
    simp only [T.op, T.tx, T.ks, Bool.and_eq_true] at h
    rw [printL, printL, eqB_iff.1 h.1, eqB_iff.1 h.2.1, same_kids ks ks' h.2.2]
theorem same_kids : ∀ (l m : List T), sameL l m = true → kidsL l = kidsL m
  | [], [], _ => rfl
  | [], u :: m, h => by rw [sameL] at h; cases h
  | t :: l, [], h => by simp [sameL] at h
  | t :: l, u :: m, h => by
    rw [sameL_cons, Bool.and_eq_true] at h
    rw [kidsL, kidsL, same_print t u h.1, same_kids l m h.2]
end
theorem print_same {t u : T} (h1 : OkP t) (h2 : OkP u) : eqB ⟨(printL t).toArray⟩ ⟨(printL u).toArray⟩ = sameT t u := by
  rw [Bool.eq_iff_iff, eqB_iff]
  constructor
  · intro h
    have h3 : printL t = printL u := by
      have := congrArg (fun b : ByteArray => b.data.toList) h
      simpa using this
    exact (printL_inj t u [] [] h1 h2 (by rw [h3])).1
  · intro h
    rw [same_print t u h]
/-- Are all Ops of small letters? -/
def lettersT (t : T) : Bool := (flatT 0 t).all (fun k => ltrs k.2.1)
theorem flatTL_all {f : Ky → Bool} : ∀ {d : Nat} {l : List T}, (flatTL d l).all f = true → ∀ t ∈ l, (flatT d t).all f = true
  | _, [], _, t, h => by cases h
  | d, x :: l, h, t, ht => by
    rw [flatTL, List.all_append, Bool.and_eq_true] at h
    rcases List.mem_cons.1 ht with rfl | ht
    · exact h.1
    · exact flatTL_all h.2 t ht
theorem grow_okp (l : List Pa) : ∀ (n i d : Nat), (flatT d (growF l n i)).all (fun k => ltrs k.2.1) = true → OkP (growF l n i)
  | 0, i, d, h => by rw [growF, OkP]; exact ⟨by decide, by decide, by rw [OkPL]; trivial⟩
  | n + 1, i, d, h => by
    rw [growF] at h ⊢
    split
    · rw [OkP]; exact ⟨by decide, by decide, by rw [OkPL]; trivial⟩
    · rename_i a ha
      rw [ha] at h
      simp only at h
      rw [flatT, List.all_cons, Bool.and_eq_true] at h
      rw [OkP]
      refine ⟨h.1, cutB_size _ _, OkPL.of fun t ht => ?_⟩
      have h3 := flatTL_all h.2 t ht
      obtain ⟨k, _, rfl⟩ := List.mem_map.1 ht
      exact grow_okp l n k (d + 1) h3
theorem treeOf_okp {l : List Pa} (h : lettersT (treeOf l) = true) : OkP (treeOf l) := by
  unfold lettersT treeOf at h
  unfold treeOf
  split
  · rw [OkP]; exact ⟨by decide, by decide, by rw [OkPL]; trivial⟩
  · rename_i h0
    rw [if_neg h0] at h
    exact grow_okp _ _ _ _ h
end Go.Proofs.YtgahamppfdhnaaaDoor
