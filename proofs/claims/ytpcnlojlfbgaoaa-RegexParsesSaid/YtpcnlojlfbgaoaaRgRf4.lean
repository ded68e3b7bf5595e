/-
  MATHEMATICS of layer 9's sets: the bits of a word.
-/
import Derived.Test.YtpcnlojlfbgaoaaRgRf3
namespace Go.Proofs.Ytpcnlojlfbgaoaa
open Go.RowKit

/-- Bit i of a word. -/
def BW (x : Int) (i : Nat) : Bool := (BitVec.ofInt 64 x).getLsbD i
theorem wrap_bits (b : BitVec 64) : BitVec.ofInt 64 (IntKind.u64.wrap (b.toNat : Int)) = b := by
  have h := b.isLt
  have e : IntKind.u64.wrap (b.toNat : Int) = (b.toNat : Int) := by
    simp [IntKind.wrap, IntKind.bits, IntKind.signed]
    omega
  rw [e, BitVec.ofInt_natCast, BitVec.ofNat_toNat, BitVec.setWidth_eq]
theorem BW_or (x y : Int) (i : Nat) : BW (orU x y) i = (BW x i || BW y i) := by
  unfold BW orU
  rw [show bits BinOp.or IntKind.u64 x y = IntKind.u64.wrap ((BitVec.ofInt 64 x ||| BitVec.ofInt 64 y).toNat : Int) from rfl, wrap_bits, BitVec.getLsbD_or]
theorem BW_not (x : Int) (i : Nat) (hi : i < 64) : BW (notU x) i = !BW x i := by
  unfold BW notU
  rw [show bits BinOp.xor IntKind.u64 (if IntKind.u64.signed = true then -1 else IntKind.u64.max) x = IntKind.u64.wrap ((BitVec.ofInt 64 (if IntKind.u64.signed = true then -1 else IntKind.u64.max) ^^^ BitVec.ofInt 64 x).toNat : Int) from rfl, wrap_bits, BitVec.getLsbD_xor]
  have e : BitVec.ofInt 64 (if IntKind.u64.signed = true then -1 else IntKind.u64.max) = BitVec.allOnes 64 := by decide +kernel
  rw [e, BitVec.getLsbD_allOnes]
  simp [hi]
theorem BW_bit (n : Nat) (hn : n < 64) (i : Nat) (hi : i < 64) : BW (bitU n) i = (n == i) := by
  have : ∀ a b : Fin 64, BW (bitU a.1) b.1 = (a.1 == b.1) := by decide +kernel
  exact this ⟨n, hn⟩ ⟨i, hi⟩
theorem BW_zero (i : Nat) : BW 0 i = false := by
  unfold BW
  simp
theorem BW_nat (m : Nat) (i : Nat) (hi : i < 64) : BW (m : Int) i = m.testBit i := by
  unfold BW
  rw [BitVec.ofInt_natCast, BitVec.getLsbD_ofNat]
  simp [hi]
theorem low4 (n : Nat) : n % 16 = 8 * (n.testBit 3).toNat + 4 * (n.testBit 2).toNat + 2 * (n.testBit 1).toNat + (n.testBit 0).toNat := by
  have h : ∀ r : Fin 16, r.1 = 8 * (r.1.testBit 3).toNat + 4 * (r.1.testBit 2).toNat + 2 * (r.1.testBit 1).toNat + (r.1.testBit 0).toNat := by decide +kernel
  have e : ∀ i, i < 4 → (n % 16).testBit i = n.testBit i := fun i hi => by
    rw [show (16 : Nat) = 2 ^ 4 from rfl, Nat.testBit_mod_two_pow]
    simp [hi]
  have := h ⟨n % 16, by omega⟩
  simp only [e 0 (by omega), e 1 (by omega), e 2 (by omega), e 3 (by omega)] at this
  exact this
/-- A digit of a word, by its bits. -/
theorem hexg_bits (m : Nat) (hm : m < 18446744073709551616) (f : Nat → Bool) (v k : Nat) (hk : k < 16) (hf : ∀ i, i < 64 → BW (m : Int) i = f (64 * v + i)) : hexg (m : Int) k = hexS.data.toList.getD (partN f (64 * v + (60 - 4 * k)) 4) 0 := by
  have hs : 60 - 4 * k + 3 < 64 := by omega
  have hdv : ((m : Int) / 2 ^ (60 - 4 * k)) = ((m / 2 ^ (60 - 4 * k) : Nat) : Int) := by
    rw [Int.natCast_ediv]; simp
  have hlt : m / 2 ^ (60 - 4 * k) < 18446744073709551616 := Nat.lt_of_le_of_lt (Nat.div_le_self _ _) hm
  have hb := bits_and_u64_nat (m / 2 ^ (60 - 4 * k)) 15 hlt (by omega)
  have hn : m / 2 ^ (60 - 4 * k) &&& 15 = partN f (64 * v + (60 - 4 * k)) 4 := by
    rw [show (15 : Nat) = 2 ^ 4 - 1 from rfl, Nat.and_two_pow_sub_one_eq_mod, show (2 : Nat) ^ 4 = 16 from rfl, low4]
    have e : ∀ i, i < 4 → (m / 2 ^ (60 - 4 * k)).testBit i = f (64 * v + (60 - 4 * k) + i) := fun i hi => by
      rw [Nat.testBit_div_two_pow, ← BW_nat m _ (by omega), hf _ (by omega)]
      congr 1; omega
    rw [e 0 (by omega), e 1 (by omega), e 2 (by omega), e 3 (by omega)]
    simp only [partN]
    simp only [Nat.sub_zero, show ∀ c : Nat, c + 3 - 1 = c + 2 from fun c => rfl, show ∀ c : Nat, c + 3 - 2 = c + 1 from fun c => rfl, show ∀ c : Nat, c + 3 - 3 = c from fun c => rfl, Nat.add_zero]
    omega
  unfold hexg
  rw [hdv, show (15 : Int) = ((15 : Nat) : Int) from rfl, hb, Int.toNat_natCast, hn]
/-- A word that holds these bits, from 64 * v on. -/
def Wd (f : Nat → Bool) (v : Nat) (x : Int) : Prop := ∃ m : Nat, x = (m : Int) ∧ m < 18446744073709551616 ∧ ∀ i, i < 64 → BW (m : Int) i = f (64 * v + i)
/-- A set of these bytes. -/
def StF (f : Nat → Bool) (S : W4) : Prop := Wd f 0 S.a ∧ Wd f 1 S.b ∧ Wd f 2 S.c ∧ Wd f 3 S.d
theorem wrap_nat (b : BitVec 64) : ∃ m : Nat, IntKind.u64.wrap (b.toNat : Int) = (m : Int) ∧ m < 18446744073709551616 := by
  have h := b.isLt
  refine ⟨b.toNat, ?_, by omega⟩
  simp [IntKind.wrap, IntKind.bits, IntKind.signed]
  omega
theorem Wd.mk2 {f : Nat → Bool} {v : Nat} {x : Int} (h : ∃ m : Nat, x = (m : Int) ∧ m < 18446744073709551616) (hf : ∀ i, i < 64 → BW x i = f (64 * v + i)) : Wd f v x := by
  obtain ⟨m, rfl, hm⟩ := h
  exact ⟨m, rfl, hm, hf⟩
theorem Wd.bit {f : Nat → Bool} {v : Nat} {x : Int} (h : Wd f v x) (i : Nat) (hi : i < 64) : BW x i = f (64 * v + i) := by
  obtain ⟨m, rfl, _, h⟩ := h
  exact h i hi
theorem orU_nat (x y : Int) : ∃ m : Nat, orU x y = (m : Int) ∧ m < 18446744073709551616 := wrap_nat (BitVec.ofInt 64 x ||| BitVec.ofInt 64 y)
theorem notU_nat (x : Int) : ∃ m : Nat, notU x = (m : Int) ∧ m < 18446744073709551616 := wrap_nat (BitVec.ofInt 64 (if IntKind.u64.signed = true then -1 else IntKind.u64.max) ^^^ BitVec.ofInt 64 x)
theorem Wd.congr {f g : Nat → Bool} {v : Nat} {x : Int} (h : Wd f v x) (e : ∀ i, i < 64 → f (64 * v + i) = g (64 * v + i)) : Wd g v x := by
  obtain ⟨m, rfl, hm, h⟩ := h
  exact ⟨m, rfl, hm, fun i hi => (h i hi).trans (e i hi)⟩
theorem Wd.not {f : Nat → Bool} {v : Nat} {x : Int} (h : Wd f v x) : Wd (fun c => !f c) v (notU x) :=
  Wd.mk2 (notU_nat x) (fun i hi => by rw [BW_not x i hi, h.bit i hi])
theorem StF.not {f : Nat → Bool} {S : W4} (h : StF f S) : StF (fun c => !f c) (notW S) := ⟨h.1.not, h.2.1.not, h.2.2.1.not, h.2.2.2.not⟩
theorem Wd.zero (v : Nat) : Wd (fun _ => false) v 0 := ⟨0, rfl, by decide, fun i _ => BW_zero i⟩
theorem StF.zero : StF (fun _ => false) W4.zero := ⟨Wd.zero 0, Wd.zero 1, Wd.zero 2, Wd.zero 3⟩
theorem Wd.hex {f : Nat → Bool} {v : Nat} {x : Int} (h : Wd f v x) (L : List UInt8) (hL : L = digsN f (16 * v)) : L ++ hexD x = digsN f (16 * (v + 1)) := by
  obtain ⟨m, rfl, hm, hf⟩ := h
  subst hL
  have : ∀ k, k ≤ 16 → digsN f (16 * v) ++ (List.range k).map (hexg (m : Int)) = digsN f (16 * v + k) := by
    intro k
    induction k with
    | zero => intro _; simp
    | succ k ih =>
      intro hk
      rw [List.range_succ, List.map_append, ← List.append_assoc, ih (by omega), digsN_succ f v k (by omega)]
      congr 1
      simp [hexg_bits m hm f v k (by omega) hf]
  have h := this 16 (Nat.le_refl _)
  rw [show 16 * (v + 1) = 16 * v + 16 by omega, ← h]
  rfl
theorem StF.hex {f : Nat → Bool} {S : W4} (h : StF f S) : hex4 S = digsN f 64 := by
  have h1 := h.1.hex [] rfl
  have h2 := h.2.1.hex _ h1
  have h3 := h.2.2.1.hex _ h2
  have h4 := h.2.2.2.hex _ h3
  rw [show (64 : Nat) = 16 * (3 + 1) from rfl, ← h4]
  simp [hex4, wordsL]
end Go.Proofs.Ytpcnlojlfbgaoaa
