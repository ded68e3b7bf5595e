/-
  MATHEMATICS of layer 5's own products and quotients by hand: a row of numbers as one number of ten's powers; what one place more, and what a carry, makes of it; a quotient digit by digit. Plain lists and numbers, of no program.
-/
import Derived.Test.YtknnaloepkonlaaDoorNumM3
namespace Go.Proofs.YtknnaloepkonlaaDoor
open Go.Lib

def dvN (l : List Nat) : Nat := l.foldl (fun n d => 10 * n + d) 0
theorem dvN_lin (l : List Nat) : ∀ n, l.foldl (fun n d => 10 * n + d) n = n * 10 ^ l.length + dvN l := by
  induction l with
  | nil => intro n; simp [dvN]
  | cons d l ih =>
    intro n
    unfold dvN
    rw [List.foldl_cons, List.foldl_cons, ih, ih (10 * 0 + d), List.length_cons, Nat.pow_succ, Nat.add_mul]
    have : 10 * n * 10 ^ l.length = n * (10 ^ l.length * 10) := by rw [Nat.mul_comm 10 n, Nat.mul_assoc, Nat.mul_comm 10]
    rw [this, show 10 * 0 + d = d from by omega]
    omega
theorem dvN_cons (d : Nat) (l : List Nat) : dvN (d :: l) = d * 10 ^ l.length + dvN l := by
  have := dvN_lin l (10 * 0 + d)
  show l.foldl (fun n d => 10 * n + d) (10 * 0 + d) = _
  rw [this]; simp
theorem dvN_set (x : Nat) : ∀ (l : List Nat) (j : Nat) (h : j < l.length), dvN (l.set j (l[j] + x)) = dvN l + x * 10 ^ (l.length - 1 - j) := by
  intro l
  induction l with
  | nil => intro j h; cases h
  | cons d l ih =>
    intro j h
    cases j with
    | zero => simp only [List.set_cons_zero, List.getElem_cons_zero, dvN_cons, List.length_cons, Nat.add_sub_cancel, Nat.sub_zero, Nat.add_mul]; omega
    | succ j =>
      have hj : j < l.length := by simpa using h
      simp only [List.set_cons_succ, List.getElem_cons_succ, dvN_cons, List.length_set, List.length_cons]
      rw [ih j hj, show l.length + 1 - 1 - (j + 1) = l.length - 1 - j by omega]; omega
theorem dvN_carry : ∀ (l : List Nat) (j : Nat) (h : j + 1 < l.length), dvN ((l.set j (l[j] + l[j + 1] / 10)).set (j + 1) (l[j + 1] % 10)) = dvN l := by
  intro l
  induction l with
  | nil => intro j h; cases h
  | cons a l ih =>
    intro j h
    cases j with
    | zero =>
      cases l with
      | nil => simp at h
      | cons b r =>
        simp only [List.set_cons_zero, List.set_cons_succ, List.getElem_cons_zero, List.getElem_cons_succ, dvN_cons, List.length_cons, Nat.pow_succ]
        have hb := Nat.div_add_mod b 10
        have e : b * 10 ^ r.length = (10 * (b / 10) + b % 10) * 10 ^ r.length := by rw [hb]
        rw [e]
        generalize b / 10 = q
        generalize b % 10 = m
        generalize 10 ^ r.length = p
        rw [Nat.add_mul, Nat.add_mul, Nat.mul_assoc 10 q p, ← Nat.mul_assoc q p 10]
        omega
    | succ j =>
      have hj : j + 1 < l.length := by simpa using h
      simp only [List.set_cons_succ, List.getElem_cons_succ, dvN_cons, List.length_set]
      rw [ih j hj]
theorem dvN_zero (n : Nat) : dvN (List.replicate n 0) = 0 := by
  induction n with
  | zero => rfl
  | succ n ih => rw [List.replicate_succ, dvN_cons, ih]; simp
theorem dvN_head (d : Nat) (l : List Nat) (n : Nat) (h : dvN (d :: l) < 10 ^ (n + 1)) (hl : l.length = n) : d < 10 := by
  rw [dvN_cons, hl, Nat.pow_succ] at h
  rcases Nat.lt_or_ge d 10 with h1 | h1
  · exact h1
  · have := Nat.mul_le_mul_right (10 ^ n) h1; omega
theorem valD_cons (c : UInt8) (l : List UInt8) : valD (c :: l) = (c.toNat - 48) * 10 ^ l.length + valD l := by
  have := valF_cons 0 l c
  unfold valD
  rw [this, valF_lin]; simp [valD]
/-- A row of digits, as bytes. -/
def digB (l : List Nat) : List UInt8 := l.map fun d => UInt8.ofNat (48 + d)
theorem digB_val : ∀ l : List Nat, (∀ d ∈ l, d < 10) → valD (digB l) = dvN l := by
  intro l
  induction l with
  | nil => intro _; rfl
  | cons d l ih =>
    intro h
    have hd := h d (by simp)
    show valD (UInt8.ofNat (48 + d) :: digB l) = _
    rw [valD_cons, dvN_cons, ih fun x hx => h x (by simp [hx]), UInt8.toNat_ofNat_of_lt' (by show 48 + d < 256; omega)]
    simp [digB]
theorem digB_isD (l : List Nat) (h : ∀ d ∈ l, d < 10) : ∀ c ∈ digB l, isD c = true := by
  intro c hc
  obtain ⟨d, hd, rfl⟩ := List.mem_map.1 hc
  have := h d hd
  unfold isD
  rw [UInt8.toNat_ofNat_of_lt' (by show 48 + d < 256; omega)]
  exact decide_eq_true (by omega)
/-- One digit of a quotient. -/
theorem quo_step (P c d : Nat) (hd : 0 < d) : (10 * P + c) / d = 10 * (P / d) + (10 * (P % d) + c) / d ∧ (10 * P + c) % d = (10 * (P % d) + c) % d := by
  have e : 10 * P + c = d * (10 * (P / d)) + (10 * (P % d) + c) := by
    have h := Nat.div_add_mod P d
    have : d * (10 * (P / d)) = 10 * (d * (P / d)) := by rw [← Nat.mul_assoc, Nat.mul_comm d 10, Nat.mul_assoc]
    omega
  constructor
  · rw [e, Nat.mul_add_div hd]
  · conv => lhs; rw [e]
    rw [Nat.mul_add_mod]
/-- A digit and what is left behind it. -/
theorem quo_is (d r q t : Nat) (h : t + q * d = r) (ht : t < d) : q = r / d ∧ t = r % d := by
  have hd : 0 < d := by omega
  subst h
  constructor
  · rw [Nat.add_mul_div_right _ _ hd, Nat.div_eq_of_lt ht]; omega
  · rw [Nat.add_mul_mod_self_right, Nat.mod_eq_of_lt ht]
/-- One step of a product: two digits, at their places. -/
theorem tim_step (A d e p q u : Nat) : A + d * p * u + d * e * (p * q) = A + d * p * (e * q + u) := by
  rw [Nat.mul_add, Nat.add_assoc]
  congr 1
  rw [Nat.add_comm]
  congr 1
  rw [Nat.mul_assoc d e, Nat.mul_assoc d p, ← Nat.mul_assoc e p, Nat.mul_comm e p, Nat.mul_assoc p e q]
end Go.Proofs.YtknnaloepkonlaaDoor
