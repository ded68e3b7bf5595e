/-
  MATHEMATICS of the division of 128 bits by 64 (Knuth's: two digits of 32 bits): plain numbers, of no program.
-/
import Derived.WalkKit
namespace Go.Proofs.YtipcanbeegladaaGreatDoor

/-- The guess is too great: what is taken is more than there is. -/
theorem dv_more (u d v1 v0 q r : Nat) (hr : r + q * v1 = u) (h : 4294967296 * r + d < q * v0) : u * 4294967296 + d < q * (v1 * 4294967296 + v0) := by
  have e : q * (v1 * 4294967296 + v0) = (q * v1) * 4294967296 + q * v0 := by rw [Nat.mul_add, Nat.mul_assoc]
  rw [e]; omega
theorem dv_fits (u d v1 v0 q r : Nat) (hr : r + q * v1 = u) (h : q * v0 ≤ 4294967296 * r + d) : q * (v1 * 4294967296 + v0) ≤ u * 4294967296 + d := by
  have e : q * (v1 * 4294967296 + v0) = (q * v1) * 4294967296 + q * v0 := by rw [Nat.mul_add, Nat.mul_assoc]
  rw [e]; omega
theorem dv_lt (u d V : Nat) (h : u < V) (hd : d < 4294967296) : (u * 4294967296 + d) / V < 4294967296 := by
  have hV : 0 < V := by omega
  rw [Nat.div_lt_iff_lt_mul hV]
  have : (u + 1) * 4294967296 ≤ V * 4294967296 := Nat.mul_le_mul_right _ h
  rw [Nat.mul_comm 4294967296 V]; omega
theorem dv_above (u d v1 v0 : Nat) (h1 : 0 < v1) (hd : d < 4294967296) : (u * 4294967296 + d) / (v1 * 4294967296 + v0) ≤ u / v1 := by
  rw [Nat.le_div_iff_mul_le h1]
  have hq := Nat.div_mul_le_self (u * 4294967296 + d) (v1 * 4294967296 + v0)
  have e : (u * 4294967296 + d) / (v1 * 4294967296 + v0) * (v1 * 4294967296 + v0) = ((u * 4294967296 + d) / (v1 * 4294967296 + v0) * v1) * 4294967296 + (u * 4294967296 + d) / (v1 * 4294967296 + v0) * v0 := by rw [Nat.mul_add, Nat.mul_assoc]
  rw [e] at hq; omega
/-- The loop's way on: the guess is above the quotient. -/
theorem dv_down (u d v1 v0 q r : Nat) (hu : u < v1 * 4294967296 + v0) (hd : d < 4294967296) (hr : r + q * v1 = u) (h : 4294967296 ≤ q ∨ 4294967296 * r + d < q * v0) : (u * 4294967296 + d) / (v1 * 4294967296 + v0) < q := by
  rcases h with h | h
  · have := dv_lt u d _ hu hd; omega
  · rw [Nat.div_lt_iff_lt_mul (by omega)]; exact dv_more u d v1 v0 q r hr h
/-- The loop's end by its test. -/
theorem dv_end (u d v1 v0 q r : Nat) (hu : u < v1 * 4294967296 + v0) (hr : r + q * v1 = u) (hq : (u * 4294967296 + d) / (v1 * 4294967296 + v0) ≤ q) (h : q * v0 ≤ 4294967296 * r + d) : (u * 4294967296 + d) / (v1 * 4294967296 + v0) = q := by
  refine Nat.le_antisymm hq ?_
  rw [Nat.le_div_iff_mul_le (by omega)]; exact dv_fits u d v1 v0 q r hr h
/-- The loop's end by its break. -/
theorem dv_break (u d v1 v0 q r : Nat) (hu : u < v1 * 4294967296 + v0) (hv : v0 < 4294967296) (hr : r + q * v1 = u) (hq : (u * 4294967296 + d) / (v1 * 4294967296 + v0) ≤ q) (h : 4294967296 ≤ r) : (u * 4294967296 + d) / (v1 * 4294967296 + v0) = q := by
  refine dv_end u d v1 v0 q r hu hr hq ?_
  have hqB : q ≤ 4294967296 := by
    rcases Nat.lt_or_ge 4294967296 q with hh | hh
    · have := Nat.mul_le_mul_right v1 hh; omega
    · exact hh
  have := Nat.mul_le_mul_right v0 hqB
  omega
/-- A step down: one less is taken. -/
theorem dv_step (v1 q r u : Nat) (hr : r + q * v1 = u) (hq : 0 < q) : r + v1 + (q - 1) * v1 = u := by
  obtain ⟨k, rfl⟩ : ∃ k, q = k + 1 := ⟨q - 1, by omega⟩
  rw [Nat.add_mul] at hr; simp; omega
theorem dv_aux (u l1 l0 V q r : Nat) (h : V * q + r = u * 4294967296 + l1) : u * 18446744073709551616 + (l1 * 4294967296 + l0) = V * (q * 4294967296) + (r * 4294967296 + l0) := by
  rw [← Nat.mul_assoc]
  generalize V * q = p at *
  omega
/-- The two digits are the quotient. -/
theorem dv_all (u l1 l0 V : Nat) (hV : 0 < V) :
    (u * 18446744073709551616 + (l1 * 4294967296 + l0)) / V = (u * 4294967296 + l1) / V * 4294967296 + ((u * 4294967296 + l1) % V * 4294967296 + l0) / V := by
  rw [dv_aux u l1 l0 V _ _ (Nat.div_add_mod (u * 4294967296 + l1) V), Nat.mul_add_div hV]
/-- What is left, behind numbers that wrap. -/
theorem dv_rest (u d V : Nat) (hV : V ≤ 18446744073709551616) (hu : u < V) :
    IntKind.u64.wrap (IntKind.u64.wrap (IntKind.u64.wrap ((u : Int) * 4294967296) + (d : Int)) - IntKind.u64.wrap ((((u * 4294967296 + d) / V : Nat) : Int) * (V : Int))) = (((u * 4294967296 + d) % V : Nat) : Int) := by
  simp only [IntKind.wrap_u64]
  have h := Nat.div_add_mod (u * 4294967296 + d) V
  have hl := Nat.mod_lt (u * 4294967296 + d) (show V > 0 by omega)
  have e : (((u * 4294967296 + d) / V : Nat) : Int) * (V : Int) = ((V * ((u * 4294967296 + d) / V) : Nat) : Int) := by rw [Int.natCast_mul, Int.mul_comm]
  rw [e]
  generalize V * ((u * 4294967296 + d) / V) = p at *
  generalize (u * 4294967296 + d) % V = r at *
  omega
/-- Both shifted alike: the quotient is the same. -/
theorem dv_shift (a b k : Nat) (hk : 0 < k) : a * k / (b * k) = a / b := Nat.mul_div_mul_right _ _ hk
end Go.Proofs.YtipcanbeegladaaGreatDoor
