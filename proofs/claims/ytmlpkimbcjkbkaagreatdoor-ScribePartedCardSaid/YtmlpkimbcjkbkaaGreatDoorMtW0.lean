/-
  TABLES OF SETS of layer 10 (match): sets of leaves as words of bits, a table's rows in memory.
-/
import Derived.Test.YtmlpkimbcjkbkaaGreatDoorMtM
import Derived.Test.YtmlpkimbcjkbkaaGreatDoorRgX
import Derived.Laws.Bits64b
namespace Go.Proofs.YtmlpkimbcjkbkaaGreatDoor

/-- A run over parts one behind the other: on the first part's leaves, on the others', or from those to these. -/
theorem Run.split {g : W4 → Nat → Prop} {t : RT} {ts : List RT} {b x i y j : Nat} (h : Run (TksL g (t :: ts) b) (BhdC (t :: ts) b) x i y j) :
    (x < b + leafN t ∧ y < b + leafN t ∧ Run (Tks g t b) (Bhd t b) x i y j) ∨ (b + leafN t ≤ x ∧ b + leafN t ≤ y ∧ Run (TksL g ts (b + leafN t)) (BhdC ts (b + leafN t)) x i y j) ∨
      (x < b + leafN t ∧ b + leafN t ≤ y ∧ ∃ k y1 x2, i < k ∧ k < j ∧ Lst t b 0 y1 ∧ FstC ts (b + leafN t) 0 x2 ∧ Run (Tks g t b) (Bhd t b) x i y1 k ∧ Run (TksL g ts (b + leafN t)) (BhdC ts (b + leafN t)) x2 k y j) := by
  induction h with
  | one h =>
    unfold TksL at h
    rcases h with ⟨h1, h2⟩ | ⟨h1, h2⟩
    · exact .inl ⟨h1, h1, .one h2⟩
    · exact .inr (.inl ⟨h1, h1, .one h2⟩)
  | @more x i z y j h hb hr ih =>
    unfold TksL at h
    unfold BhdC at hb
    have hlt := hr.lt
    rcases h with ⟨h1, h2⟩ | ⟨h1, h2⟩
    · rcases hb with hb | hb | ⟨ha, hb⟩
      · have hz := (Bhd.range t b x z hb).2
        rcases ih with ⟨k1, k2, k3⟩ | ⟨k1, _⟩ | ⟨k1, k2, k, y1, x2, e1, e2, e3, e4, e5, e6⟩
        · exact .inl ⟨h1, k2, .more h2 hb k3⟩
        · omega
        · exact .inr (.inr ⟨h1, k2, k, y1, x2, by omega, e2, e3, e4, .more h2 hb e5, e6⟩)
      · have := BhdC.range ts _ x z hb; omega
      · have hz := FstC.range ts _ 0 z hb
        rcases ih with ⟨k1, _⟩ | ⟨_, k2, k3⟩ | ⟨k1, _⟩
        · omega
        · exact .inr (.inr ⟨h1, k2, i + 1, x, z, by omega, hlt, ha, hb, .one h2, k3⟩)
        · omega
    · rcases hb with hb | hb | ⟨ha, hb⟩
      · have := Bhd.range t b x z hb; omega
      · have hz := (BhdC.range ts _ x z hb).2
        rcases ih with ⟨k1, _⟩ | ⟨_, k2, k3⟩ | ⟨k1, _⟩
        · omega
        · exact .inr (.inl ⟨h1, k2, .more h2 hb k3⟩)
        · omega
      · have := Lst.range t b 0 x ha; omega
/-- A run with links: without one, or up to the first one. -/
theorem Run.links {T B L : Nat → Nat → Prop} {x i y j : Nat} (h : Run T (fun x z => B x z ∨ L x z) x i y j) :
    Run T B x i y j ∨ ∃ k y1 x2, i < k ∧ k < j ∧ L y1 x2 ∧ Run T B x i y1 k ∧ Run T (fun x z => B x z ∨ L x z) x2 k y j := by
  induction h with
  | one h => exact .inl (.one h)
  | @more x i z y j h hb hr ih =>
    have hlt := hr.lt
    rcases hb with hb | hb
    · rcases ih with ih | ⟨k, y1, x2, e1, e2, e3, e4, e5⟩
      · exact .inl (.more h hb ih)
      · exact .inr ⟨k, y1, x2, by omega, e2, e3, .more h hb e4, e5⟩
    · exact .inr ⟨i + 1, x, z, by omega, hlt, hb, .one h, hr⟩
theorem Run.splitA {g : W4 → Nat → Prop} {t : RT} {ts : List RT} {b x i y j : Nat} (h : Run (TksL g (t :: ts) b) (BhdA (t :: ts) b) x i y j) :
    (x < b + leafN t ∧ y < b + leafN t ∧ Run (Tks g t b) (Bhd t b) x i y j) ∨ (b + leafN t ≤ x ∧ b + leafN t ≤ y ∧ Run (TksL g ts (b + leafN t)) (BhdA ts (b + leafN t)) x i y j) := by
  induction h with
  | one h =>
    unfold TksL at h
    rcases h with ⟨h1, h2⟩ | ⟨h1, h2⟩
    · exact .inl ⟨h1, h1, .one h2⟩
    · exact .inr ⟨h1, h1, .one h2⟩
  | @more x i z y j h hb hr ih =>
    unfold TksL at h
    unfold BhdA at hb
    rcases h with ⟨h1, h2⟩ | ⟨h1, h2⟩
    · rcases hb with hb | hb
      · have hz := (Bhd.range t b x z hb).2
        rcases ih with ⟨k1, k2, k3⟩ | ⟨k1, _⟩
        · exact .inl ⟨h1, k2, .more h2 hb k3⟩
        · omega
      · have := BhdA.range ts _ x z hb; omega
    · rcases hb with hb | hb
      · have := Bhd.range t b x z hb; omega
      · have hz := (BhdA.range ts _ x z hb).2
        rcases ih with ⟨k1, _⟩ | ⟨_, k2, k3⟩
        · omega
        · exact .inr ⟨h1, k2, .more h2 hb k3⟩
section
variable (g : W4 → Nat → Prop) (n : Nat)
theorem often_of_run {ks : List RT} {b : Nat} (H : ∀ i j, i < j → j ≤ n → ViaC g n ks b i j → CatL g n ks i j) : ∀ (m i j x y : Nat), j - i ≤ m → j ≤ n → FstC ks b (spotN i n) x → LstC ks b (spotN j n) y →
    Run (TksL g ks b) (fun x z => BhdC ks b x z ∨ (LstC ks b 0 x ∧ FstC ks b 0 z)) x i y j → ∃ k, CatL g n ks i k ∧ Often (CatL g n ks) k j
  | 0, i, j, x, y, hm, _, _, _, h => by have := h.lt; omega
  | m + 1, i, j, x, y, hm, hj, hx, hy, h => by
    have hlt := h.lt
    rcases h.links with h | ⟨k, y1, x2, e1, e2, ⟨e3, e4⟩, r1, r2⟩
    · exact ⟨j, H i j hlt hj ⟨x, y, hx, hy, h⟩, .none j⟩
    · have hs : spotN k n = 0 := spotN_in (by omega) (by omega)
      obtain ⟨k2, ha, hb⟩ := often_of_run H m k j x2 y (by omega) hj (by rw [hs]; exact e4) hy r2
      exact ⟨k, H i k e1 (by omega) ⟨x, y1, hx, by rw [hs]; exact e3, r1⟩, .more ha hb⟩
mutual
/-- Where a tree's leaves run, it leads. -/
theorem via_lead : ∀ (t : RT) (b i j : Nat), j ≤ n → Via g n t b i j → Lead g n t i j
  | .mk op st ks, b, i, j, hj, h => by
    obtain ⟨x, y, hx, hy, hr⟩ := h
    have hlt := hr.lt
    unfold Fst at hx
    unfold Lst at hy
    unfold Lead
    by_cases h1 : op = 1
    · rw [if_pos h1]
      cases hr with
      | one h =>
        unfold Tks at h
        rw [if_pos h1] at h
        exact ⟨h.2, by omega, rfl⟩
      | more h hb _ => unfold Bhd at hb; rw [if_pos h1] at hb; exact hb.elim
    rw [if_neg h1] at hx hy ⊢
    by_cases h3 : op = 3
    · rw [if_pos h3] at hx hy ⊢
      exact viaA_lead ks b i j hj ⟨x, y, hx, hy, hr.mono (fun x i h => by unfold Tks at h; rw [if_neg h1, if_neg (by omega)] at h; exact h) (fun x z h => by unfold Bhd at h; rw [if_neg h1, if_pos h3] at h; exact h)⟩
    rw [if_neg h3] at hx hy ⊢
    by_cases h78 : op = 7 ∨ op = 8
    · rw [if_pos h78] at hx; exact hx.elim
    rw [if_neg h78] at hx hy
    rw [if_neg (by omega), if_neg (by omega)]
    have hT : ∀ x i, Tks g (.mk op st ks) b x i → TksL g ks b x i := fun x i h => by unfold Tks at h; rw [if_neg h1, if_neg h78] at h; exact h
    by_cases h45 : op = 4 ∨ op = 5
    · have hO := often_of_run g n (b := b) (fun i j _ hj h => viaC_lead ks b i j hj h) (j - i) i j x y (Nat.le_refl _) hj hx hy (hr.mono hT (fun x z h => by unfold Bhd at h; rw [if_neg h1, if_neg h3, if_neg h78, if_pos h45] at h; exact h))
      by_cases h4 : op = 4
      · rw [if_pos h4]
        obtain ⟨k, ha, hb⟩ := hO
        exact .more ha hb
      · rw [if_neg h4, if_pos (by omega)]; exact hO
    · have hC : CatL g n ks i j := viaC_lead ks b i j hj ⟨x, y, hx, hy, hr.mono hT (fun x z h => by unfold Bhd at h; rw [if_neg h1, if_neg h3, if_neg h78, if_neg h45] at h; exact h)⟩
      rw [if_neg (by omega), if_neg (by omega)]
      split
      · exact .inr hC
      · exact hC
theorem viaC_lead : ∀ (ks : List RT) (b i j : Nat), j ≤ n → ViaC g n ks b i j → CatL g n ks i j
  | [], b, i, j, _, h => by obtain ⟨x, y, hx, _, _⟩ := h; unfold FstC at hx; exact hx.elim
  | t :: ts, b, i, j, hj, h => by
    obtain ⟨x, y, hx, hy, hr⟩ := h
    have hlt := hr.lt
    unfold FstC at hx
    unfold LstC at hy
    unfold CatL
    rcases hr.split with ⟨k1, k2, k3⟩ | ⟨k1, k2, k3⟩ | ⟨k1, k2, k, y1, x2, e1, e2, e3, e4, e5, e6⟩
    · rcases hx with hx | ⟨_, hx⟩
      · rcases hy with hy | ⟨hy1, hy2⟩
        · have := LstC.range ts _ _ y hy; omega
        · exact ⟨j, via_lead t b i j hj ⟨x, y, hx, hy2, k3⟩, (empC_iff g n ts j).2 hy1⟩
      · have := FstC.range ts _ _ x hx; omega
    · rcases hx with hx | ⟨hx1, hx2⟩
      · have := Fst.range t b _ x hx; omega
      · rcases hy with hy | ⟨_, hy⟩
        · exact ⟨i, (emp_iff g n t i).2 hx1, viaC_lead ts _ i j hj ⟨x, y, hx2, hy, k3⟩⟩
        · have := Lst.range t b _ y hy; omega
    · have hs : spotN k n = 0 := spotN_in (by omega) (by omega)
      rcases hx with hx | ⟨_, hx⟩
      · rcases hy with hy | ⟨_, hy⟩
        · exact ⟨k, via_lead t b i k (by omega) ⟨x, y1, hx, by rw [hs]; exact e3, e5⟩, viaC_lead ts _ k j hj ⟨x2, y, by rw [hs]; exact e4, hy, e6⟩⟩
        · have := Lst.range t b _ y hy; omega
      · have := FstC.range ts _ _ x hx; omega
theorem viaA_lead : ∀ (ks : List RT) (b i j : Nat), j ≤ n → ViaA g n ks b i j → AltL g n ks i j
  | [], b, i, j, _, h => by obtain ⟨x, y, hx, _, _⟩ := h; unfold FstA at hx; exact hx.elim
  | t :: ts, b, i, j, hj, h => by
    obtain ⟨x, y, hx, hy, hr⟩ := h
    unfold FstA at hx
    unfold LstA at hy
    unfold AltL
    rcases hr.splitA with ⟨k1, k2, k3⟩ | ⟨k1, k2, k3⟩
    · rcases hx with hx | hx
      · rcases hy with hy | hy
        · exact .inl (via_lead t b i j hj ⟨x, y, hx, hy, k3⟩)
        · have := LstA.range ts _ _ y hy; omega
      · have := FstA.range ts _ _ x hx; omega
    · rcases hx with hx | hx
      · have := Fst.range t b _ x hx; omega
      · rcases hy with hy | hy
        · have := Lst.range t b _ y hy; omega
        · exact .inr (viaA_lead ts _ i j hj ⟨x, y, hx, hy, k3⟩)
end
/-- GLUSHKOV: a tree leads from i to j just if it is met by nothing there, or its leaves run so. -/
theorem lead_iff (t : RT) (b i j : Nat) (hj : j ≤ n) : Lead g n t i j ↔ (i = j ∧ emp t (spotN i n) = true) ∨ (i < j ∧ Via g n t b i j) := by
  constructor
  · intro h
    have := Lead.le g n t _ _ h
    by_cases e : i = j
    · subst e; exact .inl ⟨rfl, (emp_iff g n t i).1 h⟩
    · exact .inr ⟨by omega, lead_via g n t b i j (by omega) hj h⟩
  · rintro (⟨rfl, h⟩ | ⟨_, h⟩)
    · exact (emp_iff g n t i).2 h
    · exact via_lead g n t b i j hj h
end
end Go.Proofs.YtmlpkimbcjkbkaaGreatDoor

namespace Go.Proofs.YtmlpkimbcjkbkaaGreatDoor

theorem leavesN_snoc (t : RT) : ∀ l : List RT, leavesN (l ++ [t]) = leavesN l + leafN t
  | [] => by simp [leavesN]
  | u :: l => by
    rw [List.cons_append]
    unfold leavesN
    rw [leavesN_snoc t l]; omega
theorem empC_snoc (t : RT) (k : Nat) : ∀ l : List RT, empC (l ++ [t]) k = (empC l k && emp t k)
  | [] => by simp [empC]
  | u :: l => by
    rw [List.cons_append]
    unfold empC
    rw [empC_snoc t k l, Bool.and_assoc]
theorem FstC_snoc (t : RT) (k x : Nat) : ∀ (l : List RT) (b : Nat), FstC (l ++ [t]) b k x ↔ FstC l b k x ∨ (empC l k = true ∧ Fst t (b + leavesN l) k x)
  | [], b => by simp [FstC, empC, leavesN]
  | u :: l, b => by
    have h := FstC_snoc t k x l (b + leafN u)
    have e : b + leafN u + leavesN l = b + leavesN (u :: l) := by rw [show leavesN (u :: l) = leafN u + leavesN l from by rw [leavesN]]; omega
    rw [e] at h
    rw [List.cons_append, FstC, FstC, h, show empC (u :: l) k = (emp u k && empC l k) from by rw [empC], Bool.and_eq_true]
    constructor
    · rintro (h | ⟨h1, h | ⟨h2, h3⟩⟩)
      · exact .inl (.inl h)
      · exact .inl (.inr ⟨h1, h⟩)
      · exact .inr ⟨⟨h1, h2⟩, h3⟩
    · rintro ((h | ⟨h1, h⟩) | ⟨⟨h1, h2⟩, h3⟩)
      · exact .inl h
      · exact .inr ⟨h1, .inl h⟩
      · exact .inr ⟨h1, .inr ⟨h2, h3⟩⟩
theorem LstC_snoc (t : RT) (k x : Nat) : ∀ (l : List RT) (b : Nat), LstC (l ++ [t]) b k x ↔ Lst t (b + leavesN l) k x ∨ (emp t k = true ∧ LstC l b k x)
  | [], b => by simp [LstC, empC, leavesN]
  | u :: l, b => by
    have h := LstC_snoc t k x l (b + leafN u)
    have e : b + leafN u + leavesN l = b + leavesN (u :: l) := by rw [show leavesN (u :: l) = leafN u + leavesN l from by rw [leavesN]]; omega
    rw [e] at h
    rw [List.cons_append, LstC, LstC, h, empC_snoc, Bool.and_eq_true]
    constructor
    · rintro ((h | ⟨h1, h2⟩) | ⟨⟨h1, h2⟩, h3⟩)
      · exact .inl h
      · exact .inr ⟨h1, .inl h2⟩
      · exact .inr ⟨h2, .inr ⟨h1, h3⟩⟩
    · rintro (h | ⟨h1, h2 | ⟨h2, h3⟩⟩)
      · exact .inl (.inl h)
      · exact .inl (.inr ⟨h1, h2⟩)
      · exact .inr ⟨⟨h2, h1⟩, h3⟩
theorem FstA_snoc (t : RT) (k x : Nat) : ∀ (l : List RT) (b : Nat), FstA (l ++ [t]) b k x ↔ FstA l b k x ∨ Fst t (b + leavesN l) k x
  | [], b => by simp [FstA, leavesN]
  | u :: l, b => by
    have h := FstA_snoc t k x l (b + leafN u)
    have e : b + leafN u + leavesN l = b + leavesN (u :: l) := by rw [show leavesN (u :: l) = leafN u + leavesN l from by rw [leavesN]]; omega
    rw [e] at h
    rw [List.cons_append, FstA, FstA, h, or_assoc]
theorem LstA_snoc (t : RT) (k x : Nat) : ∀ (l : List RT) (b : Nat), LstA (l ++ [t]) b k x ↔ LstA l b k x ∨ Lst t (b + leavesN l) k x
  | [], b => by simp [LstA, leavesN]
  | u :: l, b => by
    have h := LstA_snoc t k x l (b + leafN u)
    have e : b + leafN u + leavesN l = b + leavesN (u :: l) := by rw [show leavesN (u :: l) = leafN u + leavesN l from by rw [leavesN]]; omega
    rw [e] at h
    rw [List.cons_append, LstA, LstA, h, or_assoc]
end Go.Proofs.YtmlpkimbcjkbkaaGreatDoor

namespace Go.Proofs.YtmlpkimbcjkbkaaGreatDoor
open Go.RowKit

/-- The number whose bit i is g i, for i below n. -/
def bitsN (g : Nat → Bool) : Nat → Nat
  | 0 => 0
  | n + 1 => 2 ^ n * (g n).toNat + bitsN g n
theorem bitsN_lt (g : Nat → Bool) : ∀ n, bitsN g n < 2 ^ n
  | 0 => Nat.one_pos
  | n + 1 => by
    have h := bitsN_lt g n
    show 2 ^ n * (g n).toNat + bitsN g n < 2 ^ (n + 1)
    rw [Nat.pow_succ]
    cases g n
    · simp; omega
    · simp; omega
theorem bitsN_test (g : Nat → Bool) : ∀ n i, (bitsN g n).testBit i = (decide (i < n) && g i)
  | 0, i => by simp [bitsN]
  | n + 1, i => by
    show (2 ^ n * (g n).toNat + bitsN g n).testBit i = _
    rw [Nat.testBit_two_pow_mul_add _ (bitsN_lt g n), bitsN_test g n i]
    by_cases h : i < n
    · rw [if_pos h]; simp [h, Nat.lt_succ_of_lt h]
    · rw [if_neg h]
      by_cases h2 : i = n
      · subst h2
        rw [Nat.sub_self]
        cases g i <;> simp
      · have h3 : ¬ i < n + 1 := by omega
        obtain ⟨d, hd⟩ : ∃ d, i - n = d + 1 := ⟨i - n - 1, by omega⟩
        rw [hd]
        simp [h3]
        cases g n <;> simp [Nat.testBit_succ]
open Classical in
/-- Word j of a set. -/
noncomputable def wd (P : Nat → Prop) (j : Nat) : Nat := bitsN (fun b => decide (P (64 * j + b))) 64
theorem wd_lt (P : Nat → Prop) (j : Nat) : wd P j < 18446744073709551616 := bitsN_lt _ 64
open Classical in
theorem wd_test (P : Nat → Prop) (j : Nat) {b : Nat} (hb : b < 64) : (wd P j).testBit b = decide (P (64 * j + b)) := by
  unfold wd
  rw [bitsN_test]
  simp [hb]
theorem wd_high (P : Nat → Prop) (j : Nat) {b : Nat} (hb : ¬ b < 64) : (wd P j).testBit b = false := by
  unfold wd
  rw [bitsN_test]
  simp [hb]
open Classical in
theorem wd_ext {P : Nat → Prop} {j x : Nat} (hx : x < 18446744073709551616) (h : ∀ b, b < 64 → (x.testBit b = true ↔ P (64 * j + b))) : x = wd P j := by
  apply Nat.eq_of_testBit_eq
  intro b
  by_cases hb : b < 64
  · rw [wd_test P j hb]
    have := h b hb
    cases hx : x.testBit b <;> simp_all
  · rw [wd_high P j hb]
    exact Nat.testBit_lt_two_pow (Nat.lt_of_lt_of_le hx (Nat.pow_le_pow_right (by decide) (by omega) : (2 : Nat) ^ 64 ≤ 2 ^ b))
theorem wd_iff (P : Nat → Prop) (j : Nat) {b : Nat} (hb : b < 64) : (wd P j).testBit b = true ↔ P (64 * j + b) := by rw [wd_test P j hb]; simp
theorem wd_congr {P Q : Nat → Prop} {j : Nat} (h : ∀ b, b < 64 → (P (64 * j + b) ↔ Q (64 * j + b))) : wd P j = wd Q j :=
  wd_ext (wd_lt P j) fun b hb => (wd_iff P j hb).trans (h b hb)
theorem wd_or (P Q : Nat → Prop) (j : Nat) : wd P j ||| wd Q j = wd (fun x => P x ∨ Q x) j :=
  wd_ext (Nat.or_lt_two_pow (n := 64) (wd_lt P j) (wd_lt Q j)) fun b hb => by
    rw [Nat.testBit_or, Bool.or_eq_true, wd_iff P j hb, wd_iff Q j hb]
theorem wd_and (P Q : Nat → Prop) (j : Nat) : wd P j &&& wd Q j = wd (fun x => P x ∧ Q x) j :=
  wd_ext (Nat.and_lt_two_pow (n := 64) _ (wd_lt Q j)) fun b hb => by
    rw [Nat.testBit_and, Bool.and_eq_true, wd_iff P j hb, wd_iff Q j hb]
theorem wd_one (x : Nat) : 2 ^ (x % 64) = wd (fun y => y = x) (x / 64) :=
  wd_ext (Nat.lt_of_lt_of_le (Nat.pow_lt_pow_right (by decide) (Nat.mod_lt x (by decide : 0 < 64))) (Nat.le_refl _)) fun b hb => by
    rw [Nat.testBit_two_pow]
    simp
    omega
theorem wd_zero (P : Nat → Prop) (j : Nat) : wd P j = 0 ↔ ∀ b, b < 64 → ¬ P (64 * j + b) := by
  constructor
  · intro h b hb hp
    have := (wd_iff P j hb).2 hp
    rw [h] at this
    simp at this
  · intro h
    exact (wd_ext (x := 0) (by decide) (fun b hb => by simp; exact h b hb)).symm
theorem wd_none (j : Nat) : wd (fun _ => False) j = 0 := (wd_zero _ j).2 fun _ _ h => h
/-- The rows of a table, each of m words. -/
noncomputable def tabA (R m : Nat) (P : Nat → Nat → Prop) : Array Value := Array.ofFn (n := R * m) (fun k => Value.int .u64 ((wd (P (k.1 / m)) (k.1 % m) : Nat) : Int))
theorem tabA_size (R m : Nat) (P : Nat → Nat → Prop) : (tabA R m P).size = R * m := by simp [tabA]
theorem tab_lt {i j R m : Nat} (hi : i < R) (hj : j < m) : i * m + j < R * m :=
  Nat.lt_of_lt_of_le (by rw [Nat.succ_mul]; omega : i * m + j < (i + 1) * m) (Nat.mul_le_mul_right m hi)
theorem tab_div {i j m : Nat} (hj : j < m) : (i * m + j) / m = i := by
  rw [Nat.mul_comm, Nat.mul_add_div (by omega), Nat.div_eq_of_lt hj, Nat.add_zero]
theorem tab_mod {i j m : Nat} (hj : j < m) : (i * m + j) % m = j := by
  rw [Nat.mul_comm, Nat.mul_add_mod, Nat.mod_eq_of_lt hj]
theorem tabA_at {R m i j : Nat} (P : Nat → Nat → Prop) (hi : i < R) (hj : j < m) : (tabA R m P)[i * m + j]? = some (.int .u64 ((wd (P i) j : Nat) : Int)) := by
  have h : i * m + j < (tabA R m P).size := by rw [tabA_size]; exact tab_lt hi hj
  rw [Array.getElem?_eq_getElem h]
  simp only [tabA, Array.getElem_ofFn, tab_div hj, tab_mod hj]
theorem tabA_ext {R m : Nat} {P Q : Nat → Nat → Prop} (h : ∀ i j, i < R → j < m → wd (P i) j = wd (Q i) j) : tabA R m P = tabA R m Q := by
  apply Array.ext
  · rw [tabA_size, tabA_size]
  · intro k h1 h2
    rw [tabA_size] at h1
    have hm : 0 < m := by
      rcases Nat.eq_zero_or_pos m with h | h
      · subst h; simp at h1
      · exact h
    simp only [tabA, Array.getElem_ofFn]
    rw [h (k / m) (k % m) (Nat.div_lt_of_lt_mul (by rw [Nat.mul_comm]; exact h1)) (Nat.mod_lt _ hm)]
theorem tabA_congr {R m : Nat} {P Q : Nat → Nat → Prop} (h : ∀ i x, i < R → x < 64 * m → (P i x ↔ Q i x)) : tabA R m P = tabA R m Q :=
  tabA_ext fun i j hi hj => wd_congr fun b hb => h i _ hi (by omega)
theorem tabA_set {R m i j : Nat} (P : Nat → Nat → Prop) (Q : Nat → Prop) (_hi : i < R) (hj : j < m) :
    (tabA R m P).setIfInBounds (i * m + j) (.int .u64 ((wd Q j : Nat) : Int)) = tabA R m (fun r x => (r = i ∧ x / 64 = j ∧ Q x) ∨ (¬ (r = i ∧ x / 64 = j) ∧ P r x)) := by
  apply Array.ext
  · simp [tabA_size]
  · intro k h1 h2
    rw [tabA_size] at h2
    have hm : 0 < m := by omega
    rw [Array.getElem_setIfInBounds (by rw [tabA_size]; exact h2)]
    by_cases hk : i * m + j = k
    · subst hk
      rw [if_pos rfl]
      simp only [tabA, Array.getElem_ofFn, tab_div hj, tab_mod hj]
      rw [wd_congr (P := Q)]
      intro b hb
      have e : (64 * j + b) / 64 = j := by omega
      simp [e]
    · rw [if_neg hk]
      simp only [tabA, Array.getElem_ofFn]
      rw [wd_congr (P := P (k / m))]
      intro b hb
      have e : (64 * (k % m) + b) / 64 = k % m := by omega
      have hne : ¬ (k / m = i ∧ k % m = j) := fun h => hk (by rw [← h.1, ← h.2, Nat.mul_comm]; exact Nat.div_add_mod k m)
      rw [e]
      constructor
      · exact fun h => .inr ⟨hne, h⟩
      · rintro (h | h)
        · exact (hne ⟨h.1, h.2.1⟩).elim
        · exact h.2
/-- A table lies in block g: R rows of m words; leaf x is in row r just if P r x. -/
def Tb (w : World) (g R m : Nat) (P : Nat → Nat → Prop) : Prop := w.heap[g]? = some (.cells (tabA R m P) 40 (0, 0))
section
variable {w w' : World} {g R m : Nat} {P Q : Nat → Nat → Prop}
theorem Tb.congr (h : Tb w g R m P) (e : ∀ i x, i < R → x < 64 * m → (P i x ↔ Q i x)) : Tb w g R m Q := by
  unfold Tb at h ⊢
  rw [← tabA_congr e]; exact h
theorem Tb.lt (h : Tb w g R m P) : g < w.heap.size := (Array.getElem?_eq_some_iff.1 h).1
theorem Tb.kept (h : Tb w g R m P) (hk : w'.heap[g]? = w.heap[g]?) : Tb w' g R m P := hk.trans h
theorem Tb.below {B : Nat} (h : Tb w g R m P) (hb : Below B w w') (hg : g < B) : Tb w' g R m P := h.kept (hb.block g hg)
theorem Tb.next (h : Tb w g R m P) (hb : Below w.heap.size w w') : Tb w' g R m P := h.kept (hb.block g h.lt)
theorem Tb.onl {b : Nat} (h : Tb w g R m P) (hb : Onl b w w') (hg : g ≠ b) : Tb w' g R m P := h.kept (hb.block g h.lt hg)
theorem Tb.cell {i j : Nat} (h : Tb w g R m P) (hi : i < R) (hj : j < m) : w.cell? ⟨g, i * m + j, none⟩ = some (.int .u64 ((wd (P i) j : Nat) : Int)) := (rg_cell h).trans (tabA_at P hi hj)
theorem Tb.frozen {k : Nat} (h : Tb w g R m P) : w.frozen? ⟨g, k, none⟩ = false := rg_frozen h
theorem Tb.set {i j : Nat} (h : Tb w g R m P) (hi : i < R) (hj : j < m) (X : Nat → Prop) :
    Tb (w.setCell ⟨g, i * m + j, none⟩ (.int .u64 ((wd X j : Nat) : Int))) g R m (fun r x => (r = i ∧ x / 64 = j ∧ X x) ∨ (¬ (r = i ∧ x / 64 = j) ∧ P r x)) := by
  have := rg_setCell (i := i * m + j) h (.int .u64 ((wd X j : Nat) : Int))
  rw [tabA_set P X hi hj] at this
  exact this
end
end Go.Proofs.YtmlpkimbcjkbkaaGreatDoor
