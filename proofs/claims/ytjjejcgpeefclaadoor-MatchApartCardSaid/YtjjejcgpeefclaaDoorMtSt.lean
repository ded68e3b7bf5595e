/-
  MATHEMATICS of layer 9's sets (the bits of their words), and CONTRACT of Has.
-/
import Derived.Test.YtjjejcgpeefclaaDoorMtW1
namespace Go.Proofs.YtjjejcgpeefclaaDoor
open Go.RowKit

/-- Bit i of a word. -/
def BW (x : Int) (i : Nat) : Bool := (BitVec.ofInt 64 x).getLsbD i
theorem wrap_bits (b : BitVec 64) : BitVec.ofInt 64 (IntKind.u64.wrap (b.toNat : Int)) = b := by
  have h := b.isLt
  have e : IntKind.u64.wrap (b.toNat : Int) = (b.toNat : Int) := by
    simp [IntKind.wrap, IntKind.bits, IntKind.signed]
    omega
  rw [e, BitVec.ofInt_natCast, BitVec.ofNat_toNat, BitVec.setWidth_eq]
theorem BW_or (x y : Int) (i : Nat) : BW (orU x y) i = (BW x i || BW y i) := by
  unfold BW orU
  rw [show bits BinOp.or IntKind.u64 x y = IntKind.u64.wrap ((BitVec.ofInt 64 x ||| BitVec.ofInt 64 y).toNat : Int) from rfl, wrap_bits, BitVec.getLsbD_or]
theorem BW_not (x : Int) (i : Nat) (hi : i < 64) : BW (notU x) i = !BW x i := by
  unfold BW notU
  rw [show bits BinOp.xor IntKind.u64 (if IntKind.u64.signed = true then -1 else IntKind.u64.max) x = IntKind.u64.wrap ((BitVec.ofInt 64 (if IntKind.u64.signed = true then -1 else IntKind.u64.max) ^^^ BitVec.ofInt 64 x).toNat : Int) from rfl, wrap_bits, BitVec.getLsbD_xor]
  have e : BitVec.ofInt 64 (if IntKind.u64.signed = true then -1 else IntKind.u64.max) = BitVec.allOnes 64 := by decide +kernel
  rw [e, BitVec.getLsbD_allOnes]
  simp [hi]
theorem BW_bit (n : Nat) (hn : n < 64) (i : Nat) (hi : i < 64) : BW (bitU n) i = (n == i) := by
  have : ∀ a b : Fin 64, BW (bitU a.1) b.1 = (a.1 == b.1) := by decide +kernel
  exact this ⟨n, hn⟩ ⟨i, hi⟩
theorem BW_zero (i : Nat) : BW 0 i = false := by
  unfold BW
  simp
theorem BW_nat (m : Nat) (i : Nat) (hi : i < 64) : BW (m : Int) i = m.testBit i := by
  unfold BW
  rw [BitVec.ofInt_natCast, BitVec.getLsbD_ofNat]
  simp [hi]
/-- A word that holds these bits, from 64 * v on. -/
def Wd (f : Nat → Bool) (v : Nat) (x : Int) : Prop := ∃ m : Nat, x = (m : Int) ∧ m < 18446744073709551616 ∧ ∀ i, i < 64 → BW (m : Int) i = f (64 * v + i)
/-- A set of these bytes. -/
def StF (f : Nat → Bool) (S : W4) : Prop := Wd f 0 S.a ∧ Wd f 1 S.b ∧ Wd f 2 S.c ∧ Wd f 3 S.d
theorem wrap_nat (b : BitVec 64) : ∃ m : Nat, IntKind.u64.wrap (b.toNat : Int) = (m : Int) ∧ m < 18446744073709551616 := by
  have h := b.isLt
  refine ⟨b.toNat, ?_, by omega⟩
  simp [IntKind.wrap, IntKind.bits, IntKind.signed]
  omega
theorem Wd.mk2 {f : Nat → Bool} {v : Nat} {x : Int} (h : ∃ m : Nat, x = (m : Int) ∧ m < 18446744073709551616) (hf : ∀ i, i < 64 → BW x i = f (64 * v + i)) : Wd f v x := by
  obtain ⟨m, rfl, hm⟩ := h
  exact ⟨m, rfl, hm, hf⟩
theorem Wd.bit {f : Nat → Bool} {v : Nat} {x : Int} (h : Wd f v x) (i : Nat) (hi : i < 64) : BW x i = f (64 * v + i) := by
  obtain ⟨m, rfl, _, h⟩ := h
  exact h i hi
theorem orU_nat (x y : Int) : ∃ m : Nat, orU x y = (m : Int) ∧ m < 18446744073709551616 := wrap_nat (BitVec.ofInt 64 x ||| BitVec.ofInt 64 y)
theorem notU_nat (x : Int) : ∃ m : Nat, notU x = (m : Int) ∧ m < 18446744073709551616 := wrap_nat (BitVec.ofInt 64 (if IntKind.u64.signed = true then -1 else IntKind.u64.max) ^^^ BitVec.ofInt 64 x)
theorem Wd.congr {f g : Nat → Bool} {v : Nat} {x : Int} (h : Wd f v x) (e : ∀ i, i < 64 → f (64 * v + i) = g (64 * v + i)) : Wd g v x := by
  obtain ⟨m, rfl, hm, h⟩ := h
  exact ⟨m, rfl, hm, fun i hi => (h i hi).trans (e i hi)⟩
theorem Wd.not {f : Nat → Bool} {v : Nat} {x : Int} (h : Wd f v x) : Wd (fun c => !f c) v (notU x) :=
  Wd.mk2 (notU_nat x) (fun i hi => by rw [BW_not x i hi, h.bit i hi])
theorem StF.not {f : Nat → Bool} {S : W4} (h : StF f S) : StF (fun c => !f c) (notW S) := ⟨h.1.not, h.2.1.not, h.2.2.1.not, h.2.2.2.not⟩
theorem Wd.zero (v : Nat) : Wd (fun _ => false) v 0 := ⟨0, rfl, by decide, fun i _ => BW_zero i⟩
theorem StF.zero : StF (fun _ => false) W4.zero := ⟨Wd.zero 0, Wd.zero 1, Wd.zero 2, Wd.zero 3⟩
theorem Wd.or {f : Nat → Bool} {v : Nat} {x : Int} (h : Wd f v x) (n : Nat) (hn : n < 64) : Wd (fun z => f z || (64 * v + n == z)) v (orU x (bitU n)) :=
  Wd.mk2 (orU_nat x _) (fun i hi => by
    rw [BW_or, h.bit i hi, BW_bit n hn i hi]
    congr 1
    by_cases e : n = i
    · subst e; simp
    · have e2 : ¬ 64 * v + n = 64 * v + i := by omega
      rw [beq_eq_false_iff_ne.2 e, beq_eq_false_iff_ne.2 e2])
theorem Wd.same {f : Nat → Bool} {v c : Nat} {x : Int} (h : Wd f v x) (hc : c / 64 ≠ v) : Wd (fun z => f z || (c == z)) v x :=
  h.congr (fun i hi => by
    have e2 : ¬ c = 64 * v + i := by omega
    rw [beq_eq_false_iff_ne.2 e2, Bool.or_false])
theorem Wd.or2 {f : Nat → Bool} {v c : Nat} {x : Int} (h : Wd f v x) (hc : c / 64 = v) : Wd (fun z => f z || (c == z)) v (orU x (bitU (c % 64))) := by
  have := h.or (c % 64) (by omega)
  rw [show 64 * v + c % 64 = c by omega] at this
  exact this
theorem StF.with {f : Nat → Bool} {S : W4} (h : StF f S) (c : UInt8) : StF (fun z => f z || (c.toNat == z)) (withW S c) := by
  have hb := c.toNat_lt
  unfold withW
  split
  · rename_i e
    exact ⟨h.1.or2 e, h.2.1.same (by omega), h.2.2.1.same (by omega), h.2.2.2.same (by omega)⟩
  · split
    · rename_i e
      exact ⟨h.1.same (by omega), h.2.1.or2 e, h.2.2.1.same (by omega), h.2.2.2.same (by omega)⟩
    · split
      · rename_i e
        exact ⟨h.1.same (by omega), h.2.1.same (by omega), h.2.2.1.or2 e, h.2.2.2.same (by omega)⟩
      · have e : c.toNat / 64 = 3 := by omega
        exact ⟨h.1.same (by omega), h.2.1.same (by omega), h.2.2.1.same (by omega), h.2.2.2.or2 e⟩
theorem Wd.eq {f g : Nat → Bool} {v : Nat} {x y : Int} (h : Wd f v x) (h2 : Wd g v y) (e : ∀ i, i < 64 → f (64 * v + i) = g (64 * v + i)) : x = y := by
  obtain ⟨m, rfl, hm, hf⟩ := h
  obtain ⟨n, rfl, hn, hg⟩ := h2
  congr 1
  apply Nat.eq_of_testBit_eq
  intro i
  by_cases hi : i < 64
  · rw [← BW_nat m i hi, ← BW_nat n i hi, hf i hi, hg i hi, e i hi]
  · rw [Nat.testBit_lt_two_pow (Nat.lt_of_lt_of_le hm (by rw [show 18446744073709551616 = 2 ^ 64 from rfl]; exact Nat.pow_le_pow_right (by decide) (by omega))), Nat.testBit_lt_two_pow (Nat.lt_of_lt_of_le hn (by rw [show 18446744073709551616 = 2 ^ 64 from rfl]; exact Nat.pow_le_pow_right (by decide) (by omega)))]
theorem StF.notnot {f : Nat → Bool} {S : W4} (h : StF f S) : notW (notW S) = S := by
  have h2 := h.not.not
  obtain ⟨a, b, c, d⟩ := S
  have e1 := h2.1.eq h.1 (fun i _ => Bool.not_not _)
  have e2 := h2.2.1.eq h.2.1 (fun i _ => Bool.not_not _)
  have e3 := h2.2.2.1.eq h.2.2.1 (fun i _ => Bool.not_not _)
  have e4 := h2.2.2.2.eq h.2.2.2 (fun i _ => Bool.not_not _)
  show W4.mk (notW (notW ⟨a, b, c, d⟩)).a (notW (notW ⟨a, b, c, d⟩)).b (notW (notW ⟨a, b, c, d⟩)).c (notW (notW ⟨a, b, c, d⟩)).d = _
  rw [e1, e2, e3, e4]
/-- What Has asks. -/
theorem Wd.has {f : Nat → Bool} {v : Nat} {x : Int} (h : Wd f v x) (n : Nat) (hn : n < 64) : (bits BinOp.and IntKind.u64 (x / 2 ^ n) 1 == 1) = f (64 * v + n) := by
  obtain ⟨m, rfl, hm, hf⟩ := h
  have hdv : ((m : Int) / 2 ^ n) = ((m / 2 ^ n : Nat) : Int) := by rw [Int.natCast_ediv]; simp
  have hlt : m / 2 ^ n < 18446744073709551616 := Nat.lt_of_le_of_lt (Nat.div_le_self _ _) hm
  have hb := bits_and_u64_nat (m / 2 ^ n) 1 hlt (by omega)
  rw [hdv, show (1 : Int) = ((1 : Nat) : Int) from rfl, hb, Nat.and_one_is_mod, ← hf n hn, BW_nat m n hn, Nat.testBit_eq_decide_div_mod_eq]
  by_cases e : m / 2 ^ n % 2 = 1
  · rw [e]; rfl
  · have e0 : m / 2 ^ n % 2 = 0 := by omega
    rw [e0]; rfl
set_option maxHeartbeats 2000000 in
theorem rhas_any (f : Nat → Bool) (S : W4) (h : StF f S) (c : UInt8) (w : World) :
    Calls Tryd.prog 66 #[S.val, .int .u8 (c.toNat : Int)] w fun e w' => e = .returned (.bool (f c.toNat)) ∧ Below w.heap.size w w' := by
  have hcb := c.toNat_lt
  have hcb2 : (c.toNat : Int) ≤ 255 := by omega
  have hcb0 : 0 ≤ (c.toNat : Int) := by omega
  obtain ⟨q, hq⟩ : ∃ q : Int, (c.toNat : Int) % 64 = q := ⟨_, rfl⟩
  have hqn : c.toNat % 64 = q.toNat := by omega
  have hq0 : 0 ≤ q := by omega
  have hq1 : q ≤ 63 := by omega
  have hd : c.toNat / 64 = 0 ∨ c.toNat / 64 = 1 ∨ c.toNat / 64 = 2 ∨ c.toNat / 64 = 3 := by omega
  obtain ⟨a, b, cc, d⟩ := S
  rcases hd with hd | hd | hd | hd
  · have HV := Lib.hid (show (bits BinOp.and IntKind.u64 (a / 2 ^ q.toNat) 1 == 1) = f c.toNat by
      have := Wd.has (v := 0) h.1 q.toNat (by omega)
      rw [show 64 * 0 + q.toNat = c.toNat by omega] at this
      exact this)
    have hdi : (c.toNat : Int) / 64 = 0 := by omega
    unfold W4.val
    clear hd hqn h
    go_enter Tryd.func66, Tryd.ntmps66
    go_wp2
    rw [HV.out]
    go_ret
    exact ⟨rfl, (Below.refl _ _).alloc (Nat.le_refl _) _⟩
  · have HV := Lib.hid (show (bits BinOp.and IntKind.u64 (b / 2 ^ q.toNat) 1 == 1) = f c.toNat by
      have := Wd.has (v := 1) h.2.1 q.toNat (by omega)
      rw [show 64 * 1 + q.toNat = c.toNat by omega] at this
      exact this)
    have hdi : (c.toNat : Int) / 64 = 1 := by omega
    unfold W4.val
    clear hd hqn h
    go_enter Tryd.func66, Tryd.ntmps66
    go_wp2
    rw [HV.out]
    go_ret
    exact ⟨rfl, (Below.refl _ _).alloc (Nat.le_refl _) _⟩
  · have HV := Lib.hid (show (bits BinOp.and IntKind.u64 (cc / 2 ^ q.toNat) 1 == 1) = f c.toNat by
      have := Wd.has (v := 2) h.2.2.1 q.toNat (by omega)
      rw [show 64 * 2 + q.toNat = c.toNat by omega] at this
      exact this)
    have hdi : (c.toNat : Int) / 64 = 2 := by omega
    unfold W4.val
    clear hd hqn h
    go_enter Tryd.func66, Tryd.ntmps66
    go_wp2
    rw [HV.out]
    go_ret
    exact ⟨rfl, (Below.refl _ _).alloc (Nat.le_refl _) _⟩
  · have HV := Lib.hid (show (bits BinOp.and IntKind.u64 (d / 2 ^ q.toNat) 1 == 1) = f c.toNat by
      have := Wd.has (v := 3) h.2.2.2 q.toNat (by omega)
      rw [show 64 * 3 + q.toNat = c.toNat by omega] at this
      exact this)
    have hdi : (c.toNat : Int) / 64 = 3 := by omega
    unfold W4.val
    clear hd hqn h
    go_enter Tryd.func66, Tryd.ntmps66
    go_wp2
    rw [HV.out]
    go_ret
    exact ⟨rfl, (Below.refl _ _).alloc (Nat.le_refl _) _⟩
/-- Which bytes a set has. -/
def W4.has (s : W4) (c : Nat) : Bool := if c / 64 = 0 then BW s.a (c % 64) else if c / 64 = 1 then BW s.b (c % 64) else if c / 64 = 2 then BW s.c (c % 64) else BW s.d (c % 64)
theorem StF.has {f : Nat → Bool} {S : W4} (h : StF f S) {c : Nat} (hc : c < 256) : S.has c = f c := by
  unfold W4.has
  split
  · rename_i e
    rw [h.1.bit _ (by omega)]; congr 1; omega
  · split
    · rename_i e
      rw [h.2.1.bit _ (by omega)]; congr 1; omega
    · split
      · rename_i e
        rw [h.2.2.1.bit _ (by omega)]; congr 1; omega
      · rw [h.2.2.2.bit _ (by omega)]; congr 1; omega
/-- A set whose words are words. -/
def W4.Ok (s : W4) : Prop := ∃ f, StF f s
theorem mhas_any (S : W4) (h : S.Ok) (c : Nat) (hc : c < 256) (w : World) :
    Calls Tryd.prog 66 #[S.val, .int .u8 (c : Int)] w fun e w' => e = .returned (.bool (S.has c)) ∧ Below w.heap.size w w' := by
  obtain ⟨f, hf⟩ := h
  have := rhas_any f S hf (UInt8.ofNat c) w
  have e : (UInt8.ofNat c).toNat = c := by simp; omega
  rw [e] at this
  rw [hf.has hc]
  exact this
mutual
/-- Each leaf's set is one. -/
def RT.Ok : RT → Prop
  | .mk op st ks => (op = 1 → st.Ok) ∧ OkL ks
def OkL : List RT → Prop
  | [] => True
  | t :: ts => t.Ok ∧ OkL ts
end
theorem OkL.mem : ∀ {ts : List RT}, OkL ts → ∀ t ∈ ts, t.Ok
  | [], _, t, h => by cases h
  | u :: ts, hk, t, h => by
    unfold OkL at hk
    rcases List.mem_cons.1 h with rfl | h
    · exact hk.1
    · exact hk.2.mem t h
theorem OkL.of : ∀ {ts : List RT}, (∀ t ∈ ts, t.Ok) → OkL ts
  | [], _ => by unfold OkL; trivial
  | t :: ts, h => by
    unfold OkL
    exact ⟨h t (by simp), OkL.of fun u hu => h u (by simp [hu])⟩
end Go.Proofs.YtjjejcgpeefclaaDoor
