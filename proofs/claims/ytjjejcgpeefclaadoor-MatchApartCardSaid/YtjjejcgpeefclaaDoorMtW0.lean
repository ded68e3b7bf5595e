/-
  TABLES OF SETS of layer 10 (match): sets of leaves as words of bits, a table's rows in memory.
-/
import Derived.Test.YtjjejcgpeefclaaDoorRgX
import Derived.Test.YtjjejcgpeefclaaDoorMtO
import Derived.Laws.Bits64b
namespace Go.Proofs.YtjjejcgpeefclaaDoor
open Go.RowKit

/-- The number whose bit i is g i, for i below n. -/
def bitsN (g : Nat → Bool) : Nat → Nat
  | 0 => 0
  | n + 1 => 2 ^ n * (g n).toNat + bitsN g n
theorem bitsN_lt (g : Nat → Bool) : ∀ n, bitsN g n < 2 ^ n
  | 0 => Nat.one_pos
  | n + 1 => by
    have h := bitsN_lt g n
    show 2 ^ n * (g n).toNat + bitsN g n < 2 ^ (n + 1)
    rw [Nat.pow_succ]
    cases g n
    · simp; omega
    · simp; omega
theorem bitsN_test (g : Nat → Bool) : ∀ n i, (bitsN g n).testBit i = (decide (i < n) && g i)
  | 0, i => by simp [bitsN]
  | n + 1, i => by
    show (2 ^ n * (g n).toNat + bitsN g n).testBit i = _
    rw [Nat.testBit_two_pow_mul_add _ (bitsN_lt g n), bitsN_test g n i]
    by_cases h : i < n
    · rw [if_pos h]; simp [h, Nat.lt_succ_of_lt h]
    · rw [if_neg h]
      by_cases h2 : i = n
      · subst h2
        rw [Nat.sub_self]
        cases g i <;> simp
      · have h3 : ¬ i < n + 1 := by omega
        obtain ⟨d, hd⟩ : ∃ d, i - n = d + 1 := ⟨i - n - 1, by omega⟩
        rw [hd]
        simp [h3]
        cases g n <;> simp [Nat.testBit_succ]
open Classical in
/-- Word j of a set. -/
noncomputable def wd (P : Nat → Prop) (j : Nat) : Nat := bitsN (fun b => decide (P (64 * j + b))) 64
theorem wd_lt (P : Nat → Prop) (j : Nat) : wd P j < 18446744073709551616 := bitsN_lt _ 64
open Classical in
theorem wd_test (P : Nat → Prop) (j : Nat) {b : Nat} (hb : b < 64) : (wd P j).testBit b = decide (P (64 * j + b)) := by
  unfold wd
  rw [bitsN_test]
  simp [hb]
theorem wd_high (P : Nat → Prop) (j : Nat) {b : Nat} (hb : ¬ b < 64) : (wd P j).testBit b = false := by
  unfold wd
  rw [bitsN_test]
  simp [hb]
open Classical in
theorem wd_ext {P : Nat → Prop} {j x : Nat} (hx : x < 18446744073709551616) (h : ∀ b, b < 64 → (x.testBit b = true ↔ P (64 * j + b))) : x = wd P j := by
  apply Nat.eq_of_testBit_eq
  intro b
  by_cases hb : b < 64
  · rw [wd_test P j hb]
    have := h b hb
    cases hx : x.testBit b <;> simp_all
  · rw [wd_high P j hb]
    exact Nat.testBit_lt_two_pow (Nat.lt_of_lt_of_le hx (Nat.pow_le_pow_right (by decide) (by omega) : (2 : Nat) ^ 64 ≤ 2 ^ b))
theorem wd_iff (P : Nat → Prop) (j : Nat) {b : Nat} (hb : b < 64) : (wd P j).testBit b = true ↔ P (64 * j + b) := by rw [wd_test P j hb]; simp
theorem wd_congr {P Q : Nat → Prop} {j : Nat} (h : ∀ b, b < 64 → (P (64 * j + b) ↔ Q (64 * j + b))) : wd P j = wd Q j :=
  wd_ext (wd_lt P j) fun b hb => (wd_iff P j hb).trans (h b hb)
theorem wd_or (P Q : Nat → Prop) (j : Nat) : wd P j ||| wd Q j = wd (fun x => P x ∨ Q x) j :=
  wd_ext (Nat.or_lt_two_pow (n := 64) (wd_lt P j) (wd_lt Q j)) fun b hb => by
    rw [Nat.testBit_or, Bool.or_eq_true, wd_iff P j hb, wd_iff Q j hb]
theorem wd_and (P Q : Nat → Prop) (j : Nat) : wd P j &&& wd Q j = wd (fun x => P x ∧ Q x) j :=
  wd_ext (Nat.and_lt_two_pow (n := 64) _ (wd_lt Q j)) fun b hb => by
    rw [Nat.testBit_and, Bool.and_eq_true, wd_iff P j hb, wd_iff Q j hb]
theorem wd_one (x : Nat) : 2 ^ (x % 64) = wd (fun y => y = x) (x / 64) :=
  wd_ext (Nat.lt_of_lt_of_le (Nat.pow_lt_pow_right (by decide) (Nat.mod_lt x (by decide : 0 < 64))) (Nat.le_refl _)) fun b hb => by
    rw [Nat.testBit_two_pow]
    simp
    omega
theorem wd_zero (P : Nat → Prop) (j : Nat) : wd P j = 0 ↔ ∀ b, b < 64 → ¬ P (64 * j + b) := by
  constructor
  · intro h b hb hp
    have := (wd_iff P j hb).2 hp
    rw [h] at this
    simp at this
  · intro h
    exact (wd_ext (x := 0) (by decide) (fun b hb => by simp; exact h b hb)).symm
theorem wd_none (j : Nat) : wd (fun _ => False) j = 0 := (wd_zero _ j).2 fun _ _ h => h
/-- The rows of a table, each of m words. -/
noncomputable def tabA (R m : Nat) (P : Nat → Nat → Prop) : Array Value := Array.ofFn (n := R * m) (fun k => Value.int .u64 ((wd (P (k.1 / m)) (k.1 % m) : Nat) : Int))
theorem tabA_size (R m : Nat) (P : Nat → Nat → Prop) : (tabA R m P).size = R * m := by simp [tabA]
theorem tab_lt {i j R m : Nat} (hi : i < R) (hj : j < m) : i * m + j < R * m :=
  Nat.lt_of_lt_of_le (by rw [Nat.succ_mul]; omega : i * m + j < (i + 1) * m) (Nat.mul_le_mul_right m hi)
theorem tab_div {i j m : Nat} (hj : j < m) : (i * m + j) / m = i := by
  rw [Nat.mul_comm, Nat.mul_add_div (by omega), Nat.div_eq_of_lt hj, Nat.add_zero]
theorem tab_mod {i j m : Nat} (hj : j < m) : (i * m + j) % m = j := by
  rw [Nat.mul_comm, Nat.mul_add_mod, Nat.mod_eq_of_lt hj]
theorem tabA_at {R m i j : Nat} (P : Nat → Nat → Prop) (hi : i < R) (hj : j < m) : (tabA R m P)[i * m + j]? = some (.int .u64 ((wd (P i) j : Nat) : Int)) := by
  have h : i * m + j < (tabA R m P).size := by rw [tabA_size]; exact tab_lt hi hj
  rw [Array.getElem?_eq_getElem h]
  simp only [tabA, Array.getElem_ofFn, tab_div hj, tab_mod hj]
theorem tabA_ext {R m : Nat} {P Q : Nat → Nat → Prop} (h : ∀ i j, i < R → j < m → wd (P i) j = wd (Q i) j) : tabA R m P = tabA R m Q := by
  apply Array.ext
  · rw [tabA_size, tabA_size]
  · intro k h1 h2
    rw [tabA_size] at h1
    have hm : 0 < m := by
      rcases Nat.eq_zero_or_pos m with h | h
      · subst h; simp at h1
      · exact h
    simp only [tabA, Array.getElem_ofFn]
    rw [h (k / m) (k % m) (Nat.div_lt_of_lt_mul (by rw [Nat.mul_comm]; exact h1)) (Nat.mod_lt _ hm)]
theorem tabA_congr {R m : Nat} {P Q : Nat → Nat → Prop} (h : ∀ i x, i < R → x < 64 * m → (P i x ↔ Q i x)) : tabA R m P = tabA R m Q :=
  tabA_ext fun i j hi hj => wd_congr fun b hb => h i _ hi (by omega)
theorem tabA_set {R m i j : Nat} (P : Nat → Nat → Prop) (Q : Nat → Prop) (_hi : i < R) (hj : j < m) :
    (tabA R m P).setIfInBounds (i * m + j) (.int .u64 ((wd Q j : Nat) : Int)) = tabA R m (fun r x => (r = i ∧ x / 64 = j ∧ Q x) ∨ (¬ (r = i ∧ x / 64 = j) ∧ P r x)) := by
  apply Array.ext
  · simp [tabA_size]
  · intro k h1 h2
    rw [tabA_size] at h2
    have hm : 0 < m := by omega
    rw [Array.getElem_setIfInBounds (by rw [tabA_size]; exact h2)]
    by_cases hk : i * m + j = k
    · subst hk
      rw [if_pos rfl]
      simp only [tabA, Array.getElem_ofFn, tab_div hj, tab_mod hj]
      rw [wd_congr (P := Q)]
      intro b hb
      have e : (64 * j + b) / 64 = j := by omega
      simp [e]
    · rw [if_neg hk]
      simp only [tabA, Array.getElem_ofFn]
      rw [wd_congr (P := P (k / m))]
      intro b hb
      have e : (64 * (k % m) + b) / 64 = k % m := by omega
      have hne : ¬ (k / m = i ∧ k % m = j) := fun h => hk (by rw [← h.1, ← h.2, Nat.mul_comm]; exact Nat.div_add_mod k m)
      rw [e]
      constructor
      · exact fun h => .inr ⟨hne, h⟩
      · rintro (h | h)
        · exact (hne ⟨h.1, h.2.1⟩).elim
        · exact h.2
/-- A table lies in block g: R rows of m words; leaf x is in row r just if P r x. -/
def Tb (w : World) (g R m : Nat) (P : Nat → Nat → Prop) : Prop := w.heap[g]? = some (.cells (tabA R m P) 45 (0, 0))
section
variable {w w' : World} {g R m : Nat} {P Q : Nat → Nat → Prop}
theorem Tb.congr (h : Tb w g R m P) (e : ∀ i x, i < R → x < 64 * m → (P i x ↔ Q i x)) : Tb w g R m Q := by
  unfold Tb at h ⊢
  rw [← tabA_congr e]; exact h
theorem Tb.lt (h : Tb w g R m P) : g < w.heap.size := (Array.getElem?_eq_some_iff.1 h).1
theorem Tb.kept (h : Tb w g R m P) (hk : w'.heap[g]? = w.heap[g]?) : Tb w' g R m P := hk.trans h
theorem Tb.below {B : Nat} (h : Tb w g R m P) (hb : Below B w w') (hg : g < B) : Tb w' g R m P := h.kept (hb.block g hg)
theorem Tb.next (h : Tb w g R m P) (hb : Below w.heap.size w w') : Tb w' g R m P := h.kept (hb.block g h.lt)
theorem Tb.onl {b : Nat} (h : Tb w g R m P) (hb : Onl b w w') (hg : g ≠ b) : Tb w' g R m P := h.kept (hb.block g h.lt hg)
theorem Tb.cell {i j : Nat} (h : Tb w g R m P) (hi : i < R) (hj : j < m) : w.cell? ⟨g, i * m + j, none⟩ = some (.int .u64 ((wd (P i) j : Nat) : Int)) := (rg_cell h).trans (tabA_at P hi hj)
theorem Tb.frozen {k : Nat} (h : Tb w g R m P) : w.frozen? ⟨g, k, none⟩ = false := rg_frozen h
theorem Tb.set {i j : Nat} (h : Tb w g R m P) (hi : i < R) (hj : j < m) (X : Nat → Prop) :
    Tb (w.setCell ⟨g, i * m + j, none⟩ (.int .u64 ((wd X j : Nat) : Int))) g R m (fun r x => (r = i ∧ x / 64 = j ∧ X x) ∨ (¬ (r = i ∧ x / 64 = j) ∧ P r x)) := by
  have := rg_setCell (i := i * m + j) h (.int .u64 ((wd X j : Nat) : Int))
  rw [tabA_set P X hi hj] at this
  exact this
end
end Go.Proofs.YtjjejcgpeefclaaDoor
