/-
  MATHEMATICS of layer 9's sets: one byte more, and twice the others.
-/
import Derived.Test.YtpcnlojlfbgaoaaRgRf4
namespace Go.Proofs.Ytpcnlojlfbgaoaa
open Go.RowKit

theorem Wd.or {f : Nat → Bool} {v : Nat} {x : Int} (h : Wd f v x) (n : Nat) (hn : n < 64) : Wd (fun z => f z || (64 * v + n == z)) v (orU x (bitU n)) :=
  Wd.mk2 (orU_nat x _) (fun i hi => by
    rw [BW_or, h.bit i hi, BW_bit n hn i hi]
    congr 1
    by_cases e : n = i
    · subst e; simp
    · have e2 : ¬ 64 * v + n = 64 * v + i := by omega
      rw [beq_eq_false_iff_ne.2 e, beq_eq_false_iff_ne.2 e2])
theorem Wd.same {f : Nat → Bool} {v c : Nat} {x : Int} (h : Wd f v x) (hc : c / 64 ≠ v) : Wd (fun z => f z || (c == z)) v x :=
  h.congr (fun i hi => by
    have e2 : ¬ c = 64 * v + i := by omega
    rw [beq_eq_false_iff_ne.2 e2, Bool.or_false])
theorem Wd.or2 {f : Nat → Bool} {v c : Nat} {x : Int} (h : Wd f v x) (hc : c / 64 = v) : Wd (fun z => f z || (c == z)) v (orU x (bitU (c % 64))) := by
  have := h.or (c % 64) (by omega)
  rw [show 64 * v + c % 64 = c by omega] at this
  exact this
theorem StF.with {f : Nat → Bool} {S : W4} (h : StF f S) (c : UInt8) : StF (fun z => f z || (c.toNat == z)) (withW S c) := by
  have hb := c.toNat_lt
  unfold withW
  split
  · rename_i e
    exact ⟨h.1.or2 e, h.2.1.same (by omega), h.2.2.1.same (by omega), h.2.2.2.same (by omega)⟩
  · split
    · rename_i e
      exact ⟨h.1.same (by omega), h.2.1.or2 e, h.2.2.1.same (by omega), h.2.2.2.same (by omega)⟩
    · split
      · rename_i e
        exact ⟨h.1.same (by omega), h.2.1.same (by omega), h.2.2.1.or2 e, h.2.2.2.same (by omega)⟩
      · have e : c.toNat / 64 = 3 := by omega
        exact ⟨h.1.same (by omega), h.2.1.same (by omega), h.2.2.1.same (by omega), h.2.2.2.or2 e⟩
theorem Wd.eq {f g : Nat → Bool} {v : Nat} {x y : Int} (h : Wd f v x) (h2 : Wd g v y) (e : ∀ i, i < 64 → f (64 * v + i) = g (64 * v + i)) : x = y := by
  obtain ⟨m, rfl, hm, hf⟩ := h
  obtain ⟨n, rfl, hn, hg⟩ := h2
  congr 1
  apply Nat.eq_of_testBit_eq
  intro i
  by_cases hi : i < 64
  · rw [← BW_nat m i hi, ← BW_nat n i hi, hf i hi, hg i hi, e i hi]
  · rw [Nat.testBit_lt_two_pow (Nat.lt_of_lt_of_le hm (by rw [show 18446744073709551616 = 2 ^ 64 from rfl]; exact Nat.pow_le_pow_right (by decide) (by omega))), Nat.testBit_lt_two_pow (Nat.lt_of_lt_of_le hn (by rw [show 18446744073709551616 = 2 ^ 64 from rfl]; exact Nat.pow_le_pow_right (by decide) (by omega)))]
theorem StF.notnot {f : Nat → Bool} {S : W4} (h : StF f S) : notW (notW S) = S := by
  have h2 := h.not.not
  obtain ⟨a, b, c, d⟩ := S
  have e1 := h2.1.eq h.1 (fun i _ => Bool.not_not _)
  have e2 := h2.2.1.eq h.2.1 (fun i _ => Bool.not_not _)
  have e3 := h2.2.2.1.eq h.2.2.1 (fun i _ => Bool.not_not _)
  have e4 := h2.2.2.2.eq h.2.2.2 (fun i _ => Bool.not_not _)
  show W4.mk (notW (notW ⟨a, b, c, d⟩)).a (notW (notW ⟨a, b, c, d⟩)).b (notW (notW ⟨a, b, c, d⟩)).c (notW (notW ⟨a, b, c, d⟩)).d = _
  rw [e1, e2, e3, e4]
/-- What Has asks. -/
theorem Wd.has {f : Nat → Bool} {v : Nat} {x : Int} (h : Wd f v x) (n : Nat) (hn : n < 64) : (bits BinOp.and IntKind.u64 (x / 2 ^ n) 1 == 1) = f (64 * v + n) := by
  obtain ⟨m, rfl, hm, hf⟩ := h
  have hdv : ((m : Int) / 2 ^ n) = ((m / 2 ^ n : Nat) : Int) := by rw [Int.natCast_ediv]; simp
  have hlt : m / 2 ^ n < 18446744073709551616 := Nat.lt_of_le_of_lt (Nat.div_le_self _ _) hm
  have hb := bits_and_u64_nat (m / 2 ^ n) 1 hlt (by omega)
  rw [hdv, show (1 : Int) = ((1 : Nat) : Int) from rfl, hb, Nat.and_one_is_mod, ← hf n hn, BW_nat m n hn, Nat.testBit_eq_decide_div_mod_eq]
  by_cases e : m / 2 ^ n % 2 = 1
  · rw [e]; rfl
  · have e0 : m / 2 ^ n % 2 = 0 := by omega
    rw [e0]; rfl
end Go.Proofs.Ytpcnlojlfbgaoaa
