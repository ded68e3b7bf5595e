/-
  CONTRACTS of layer 10: spot, everywhere, nothing.
-/
import Derived.Test.YtmlpkimbcjkbkaaGreatDoorMtW1
import Derived.Test.YtmlpkimbcjkbkaaGreatDoorMtLk
namespace Go.Proofs.YtmlpkimbcjkbkaaGreatDoor
open Go.RowKit

/-- Bit i of a word. -/
def BW (x : Int) (i : Nat) : Bool := (BitVec.ofInt 64 x).getLsbD i
theorem wrap_bits (b : BitVec 64) : BitVec.ofInt 64 (IntKind.u64.wrap (b.toNat : Int)) = b := by
  have h := b.isLt
  have e : IntKind.u64.wrap (b.toNat : Int) = (b.toNat : Int) := by
    simp [IntKind.wrap, IntKind.bits, IntKind.signed]
    omega
  rw [e, BitVec.ofInt_natCast, BitVec.ofNat_toNat, BitVec.setWidth_eq]
theorem BW_or (x y : Int) (i : Nat) : BW (orU x y) i = (BW x i || BW y i) := by
  unfold BW orU
  rw [show bits BinOp.or IntKind.u64 x y = IntKind.u64.wrap ((BitVec.ofInt 64 x ||| BitVec.ofInt 64 y).toNat : Int) from rfl, wrap_bits, BitVec.getLsbD_or]
theorem BW_not (x : Int) (i : Nat) (hi : i < 64) : BW (notU x) i = !BW x i := by
  unfold BW notU
  rw [show bits BinOp.xor IntKind.u64 (if IntKind.u64.signed = true then -1 else IntKind.u64.max) x = IntKind.u64.wrap ((BitVec.ofInt 64 (if IntKind.u64.signed = true then -1 else IntKind.u64.max) ^^^ BitVec.ofInt 64 x).toNat : Int) from rfl, wrap_bits, BitVec.getLsbD_xor]
  have e : BitVec.ofInt 64 (if IntKind.u64.signed = true then -1 else IntKind.u64.max) = BitVec.allOnes 64 := by decide +kernel
  rw [e, BitVec.getLsbD_allOnes]
  simp [hi]
theorem BW_bit (n : Nat) (hn : n < 64) (i : Nat) (hi : i < 64) : BW (bitU n) i = (n == i) := by
  have : ∀ a b : Fin 64, BW (bitU a.1) b.1 = (a.1 == b.1) := by decide +kernel
  exact this ⟨n, hn⟩ ⟨i, hi⟩
theorem BW_zero (i : Nat) : BW 0 i = false := by
  unfold BW
  simp
theorem BW_nat (m : Nat) (i : Nat) (hi : i < 64) : BW (m : Int) i = m.testBit i := by
  unfold BW
  rw [BitVec.ofInt_natCast, BitVec.getLsbD_ofNat]
  simp [hi]
/-- A word that holds these bits, from 64 * v on. -/
def Wd (f : Nat → Bool) (v : Nat) (x : Int) : Prop := ∃ m : Nat, x = (m : Int) ∧ m < 18446744073709551616 ∧ ∀ i, i < 64 → BW (m : Int) i = f (64 * v + i)
/-- A set of these bytes. -/
def StF (f : Nat → Bool) (S : W4) : Prop := Wd f 0 S.a ∧ Wd f 1 S.b ∧ Wd f 2 S.c ∧ Wd f 3 S.d
theorem wrap_nat (b : BitVec 64) : ∃ m : Nat, IntKind.u64.wrap (b.toNat : Int) = (m : Int) ∧ m < 18446744073709551616 := by
  have h := b.isLt
  refine ⟨b.toNat, ?_, by omega⟩
  simp [IntKind.wrap, IntKind.bits, IntKind.signed]
  omega
theorem Wd.mk2 {f : Nat → Bool} {v : Nat} {x : Int} (h : ∃ m : Nat, x = (m : Int) ∧ m < 18446744073709551616) (hf : ∀ i, i < 64 → BW x i = f (64 * v + i)) : Wd f v x := by
  obtain ⟨m, rfl, hm⟩ := h
  exact ⟨m, rfl, hm, hf⟩
theorem Wd.bit {f : Nat → Bool} {v : Nat} {x : Int} (h : Wd f v x) (i : Nat) (hi : i < 64) : BW x i = f (64 * v + i) := by
  obtain ⟨m, rfl, _, h⟩ := h
  exact h i hi
theorem orU_nat (x y : Int) : ∃ m : Nat, orU x y = (m : Int) ∧ m < 18446744073709551616 := wrap_nat (BitVec.ofInt 64 x ||| BitVec.ofInt 64 y)
theorem notU_nat (x : Int) : ∃ m : Nat, notU x = (m : Int) ∧ m < 18446744073709551616 := wrap_nat (BitVec.ofInt 64 (if IntKind.u64.signed = true then -1 else IntKind.u64.max) ^^^ BitVec.ofInt 64 x)
theorem Wd.congr {f g : Nat → Bool} {v : Nat} {x : Int} (h : Wd f v x) (e : ∀ i, i < 64 → f (64 * v + i) = g (64 * v + i)) : Wd g v x := by
  obtain ⟨m, rfl, hm, h⟩ := h
  exact ⟨m, rfl, hm, fun i hi => (h i hi).trans (e i hi)⟩
theorem Wd.not {f : Nat → Bool} {v : Nat} {x : Int} (h : Wd f v x) : Wd (fun c => !f c) v (notU x) :=
  Wd.mk2 (notU_nat x) (fun i hi => by rw [BW_not x i hi, h.bit i hi])
theorem StF.not {f : Nat → Bool} {S : W4} (h : StF f S) : StF (fun c => !f c) (notW S) := ⟨h.1.not, h.2.1.not, h.2.2.1.not, h.2.2.2.not⟩
theorem Wd.zero (v : Nat) : Wd (fun _ => false) v 0 := ⟨0, rfl, by decide, fun i _ => BW_zero i⟩
theorem StF.zero : StF (fun _ => false) W4.zero := ⟨Wd.zero 0, Wd.zero 1, Wd.zero 2, Wd.zero 3⟩
theorem Wd.or {f : Nat → Bool} {v : Nat} {x : Int} (h : Wd f v x) (n : Nat) (hn : n < 64) : Wd (fun z => f z || (64 * v + n == z)) v (orU x (bitU n)) :=
  Wd.mk2 (orU_nat x _) (fun i hi => by
    rw [BW_or, h.bit i hi, BW_bit n hn i hi]
    congr 1
    by_cases e : n = i
    · subst e; simp
    · have e2 : ¬ 64 * v + n = 64 * v + i := by omega
      rw [beq_eq_false_iff_ne.2 e, beq_eq_false_iff_ne.2 e2])
theorem Wd.same {f : Nat → Bool} {v c : Nat} {x : Int} (h : Wd f v x) (hc : c / 64 ≠ v) : Wd (fun z => f z || (c == z)) v x :=
  h.congr (fun i hi => by
    have e2 : ¬ c = 64 * v + i := by omega
    rw [beq_eq_false_iff_ne.2 e2, Bool.or_false])
theorem Wd.or2 {f : Nat → Bool} {v c : Nat} {x : Int} (h : Wd f v x) (hc : c / 64 = v) : Wd (fun z => f z || (c == z)) v (orU x (bitU (c % 64))) := by
  have := h.or (c % 64) (by omega)
  rw [show 64 * v + c % 64 = c by omega] at this
  exact this
theorem StF.with {f : Nat → Bool} {S : W4} (h : StF f S) (c : UInt8) : StF (fun z => f z || (c.toNat == z)) (withW S c) := by
  have hb := c.toNat_lt
  unfold withW
  split
  · rename_i e
    exact ⟨h.1.or2 e, h.2.1.same (by omega), h.2.2.1.same (by omega), h.2.2.2.same (by omega)⟩
  · split
    · rename_i e
      exact ⟨h.1.same (by omega), h.2.1.or2 e, h.2.2.1.same (by omega), h.2.2.2.same (by omega)⟩
    · split
      · rename_i e
        exact ⟨h.1.same (by omega), h.2.1.same (by omega), h.2.2.1.or2 e, h.2.2.2.same (by omega)⟩
      · have e : c.toNat / 64 = 3 := by omega
        exact ⟨h.1.same (by omega), h.2.1.same (by omega), h.2.2.1.same (by omega), h.2.2.2.or2 e⟩
theorem Wd.eq {f g : Nat → Bool} {v : Nat} {x y : Int} (h : Wd f v x) (h2 : Wd g v y) (e : ∀ i, i < 64 → f (64 * v + i) = g (64 * v + i)) : x = y := by
  obtain ⟨m, rfl, hm, hf⟩ := h
  obtain ⟨n, rfl, hn, hg⟩ := h2
  congr 1
  apply Nat.eq_of_testBit_eq
  intro i
  by_cases hi : i < 64
  · rw [← BW_nat m i hi, ← BW_nat n i hi, hf i hi, hg i hi, e i hi]
  · rw [Nat.testBit_lt_two_pow (Nat.lt_of_lt_of_le hm (by rw [show 18446744073709551616 = 2 ^ 64 from rfl]; exact Nat.pow_le_pow_right (by decide) (by omega))), Nat.testBit_lt_two_pow (Nat.lt_of_lt_of_le hn (by rw [show 18446744073709551616 = 2 ^ 64 from rfl]; exact Nat.pow_le_pow_right (by decide) (by omega)))]
theorem StF.notnot {f : Nat → Bool} {S : W4} (h : StF f S) : notW (notW S) = S := by
  have h2 := h.not.not
  obtain ⟨a, b, c, d⟩ := S
  have e1 := h2.1.eq h.1 (fun i _ => Bool.not_not _)
  have e2 := h2.2.1.eq h.2.1 (fun i _ => Bool.not_not _)
  have e3 := h2.2.2.1.eq h.2.2.1 (fun i _ => Bool.not_not _)
  have e4 := h2.2.2.2.eq h.2.2.2 (fun i _ => Bool.not_not _)
  show W4.mk (notW (notW ⟨a, b, c, d⟩)).a (notW (notW ⟨a, b, c, d⟩)).b (notW (notW ⟨a, b, c, d⟩)).c (notW (notW ⟨a, b, c, d⟩)).d = _
  rw [e1, e2, e3, e4]
/-- What Has asks. -/
theorem Wd.has {f : Nat → Bool} {v : Nat} {x : Int} (h : Wd f v x) (n : Nat) (hn : n < 64) : (bits BinOp.and IntKind.u64 (x / 2 ^ n) 1 == 1) = f (64 * v + n) := by
  obtain ⟨m, rfl, hm, hf⟩ := h
  have hdv : ((m : Int) / 2 ^ n) = ((m / 2 ^ n : Nat) : Int) := by rw [Int.natCast_ediv]; simp
  have hlt : m / 2 ^ n < 18446744073709551616 := Nat.lt_of_le_of_lt (Nat.div_le_self _ _) hm
  have hb := bits_and_u64_nat (m / 2 ^ n) 1 hlt (by omega)
  rw [hdv, show (1 : Int) = ((1 : Nat) : Int) from rfl, hb, Nat.and_one_is_mod, ← hf n hn, BW_nat m n hn, Nat.testBit_eq_decide_div_mod_eq]
  by_cases e : m / 2 ^ n % 2 = 1
  · rw [e]; rfl
  · have e0 : m / 2 ^ n % 2 = 0 := by omega
    rw [e0]; rfl
set_option maxHeartbeats 2000000 in
theorem rhas_any (f : Nat → Bool) (S : W4) (h : StF f S) (c : UInt8) (w : World) :
    Calls Tryz.prog 96 #[S.val, .int .u8 (c.toNat : Int)] w fun e w' => e = .returned (.bool (f c.toNat)) ∧ Below w.heap.size w w' := by
  have hcb := c.toNat_lt
  have hcb2 : (c.toNat : Int) ≤ 255 := by omega
  have hcb0 : 0 ≤ (c.toNat : Int) := by omega
  obtain ⟨q, hq⟩ : ∃ q : Int, (c.toNat : Int) % 64 = q := ⟨_, rfl⟩
  have hqn : c.toNat % 64 = q.toNat := by omega
  have hq0 : 0 ≤ q := by omega
  have hq1 : q ≤ 63 := by omega
  have hd : c.toNat / 64 = 0 ∨ c.toNat / 64 = 1 ∨ c.toNat / 64 = 2 ∨ c.toNat / 64 = 3 := by omega
  obtain ⟨a, b, cc, d⟩ := S
  rcases hd with hd | hd | hd | hd
  · have HV := Lib.hid (show (bits BinOp.and IntKind.u64 (a / 2 ^ q.toNat) 1 == 1) = f c.toNat by
      have := Wd.has (v := 0) h.1 q.toNat (by omega)
      rw [show 64 * 0 + q.toNat = c.toNat by omega] at this
      exact this)
    have hdi : (c.toNat : Int) / 64 = 0 := by omega
    unfold W4.val
    clear hd hqn h
    go_enter Tryz.func96, Tryz.ntmps96
    go_wp2
    rw [HV.out]
    go_ret
    exact ⟨rfl, (Below.refl _ _).alloc (Nat.le_refl _) _⟩
  · have HV := Lib.hid (show (bits BinOp.and IntKind.u64 (b / 2 ^ q.toNat) 1 == 1) = f c.toNat by
      have := Wd.has (v := 1) h.2.1 q.toNat (by omega)
      rw [show 64 * 1 + q.toNat = c.toNat by omega] at this
      exact this)
    have hdi : (c.toNat : Int) / 64 = 1 := by omega
    unfold W4.val
    clear hd hqn h
    go_enter Tryz.func96, Tryz.ntmps96
    go_wp2
    rw [HV.out]
    go_ret
    exact ⟨rfl, (Below.refl _ _).alloc (Nat.le_refl _) _⟩
  · have HV := Lib.hid (show (bits BinOp.and IntKind.u64 (cc / 2 ^ q.toNat) 1 == 1) = f c.toNat by
      have := Wd.has (v := 2) h.2.2.1 q.toNat (by omega)
      rw [show 64 * 2 + q.toNat = c.toNat by omega] at this
      exact this)
    have hdi : (c.toNat : Int) / 64 = 2 := by omega
    unfold W4.val
    clear hd hqn h
    go_enter Tryz.func96, Tryz.ntmps96
    go_wp2
    rw [HV.out]
    go_ret
    exact ⟨rfl, (Below.refl _ _).alloc (Nat.le_refl _) _⟩
  · have HV := Lib.hid (show (bits BinOp.and IntKind.u64 (d / 2 ^ q.toNat) 1 == 1) = f c.toNat by
      have := Wd.has (v := 3) h.2.2.2 q.toNat (by omega)
      rw [show 64 * 3 + q.toNat = c.toNat by omega] at this
      exact this)
    have hdi : (c.toNat : Int) / 64 = 3 := by omega
    unfold W4.val
    clear hd hqn h
    go_enter Tryz.func96, Tryz.ntmps96
    go_wp2
    rw [HV.out]
    go_ret
    exact ⟨rfl, (Below.refl _ _).alloc (Nat.le_refl _) _⟩
/-- Which bytes a set has. -/
def W4.has (s : W4) (c : Nat) : Bool := if c / 64 = 0 then BW s.a (c % 64) else if c / 64 = 1 then BW s.b (c % 64) else if c / 64 = 2 then BW s.c (c % 64) else BW s.d (c % 64)
theorem StF.has {f : Nat → Bool} {S : W4} (h : StF f S) {c : Nat} (hc : c < 256) : S.has c = f c := by
  unfold W4.has
  split
  · rename_i e
    rw [h.1.bit _ (by omega)]; congr 1; omega
  · split
    · rename_i e
      rw [h.2.1.bit _ (by omega)]; congr 1; omega
    · split
      · rename_i e
        rw [h.2.2.1.bit _ (by omega)]; congr 1; omega
      · rw [h.2.2.2.bit _ (by omega)]; congr 1; omega
/-- A set whose words are words. -/
def W4.Ok (s : W4) : Prop := ∃ f, StF f s
theorem mhas_any (S : W4) (h : S.Ok) (c : Nat) (hc : c < 256) (w : World) :
    Calls Tryz.prog 96 #[S.val, .int .u8 (c : Int)] w fun e w' => e = .returned (.bool (S.has c)) ∧ Below w.heap.size w w' := by
  obtain ⟨f, hf⟩ := h
  have := rhas_any f S hf (UInt8.ofNat c) w
  have e : (UInt8.ofNat c).toNat = c := by simp; omega
  rw [e] at this
  rw [hf.has hc]
  exact this
mutual
/-- Each leaf's set is one. -/
def RT.Ok : RT → Prop
  | .mk op st ks => (op = 1 → st.Ok) ∧ OkL ks
def OkL : List RT → Prop
  | [] => True
  | t :: ts => t.Ok ∧ OkL ts
end
theorem OkL.mem : ∀ {ts : List RT}, OkL ts → ∀ t ∈ ts, t.Ok
  | [], _, t, h => by cases h
  | u :: ts, hk, t, h => by
    unfold OkL at hk
    rcases List.mem_cons.1 h with rfl | h
    · exact hk.1
    · exact hk.2.mem t h
theorem OkL.of : ∀ {ts : List RT}, (∀ t ∈ ts, t.Ok) → OkL ts
  | [], _ => by unfold OkL; trivial
  | t :: ts, h => by
    unfold OkL
    exact ⟨h t (by simp), OkL.of fun u hu => h u (by simp [hu])⟩
end Go.Proofs.YtmlpkimbcjkbkaaGreatDoor

namespace Go.Proofs.YtmlpkimbcjkbkaaGreatDoor
open Go.RowKit

set_option maxHeartbeats 2000000 in
theorem mspot_any (i n : Nat) (_hi : i ≤ 1000000000) (_hn : n ≤ 1000000000) (w : World) :
    Calls Tryz.prog 78 #[.int .i64 (i : Int), .int .i64 (n : Int)] w fun e w' => e = .returned (.int .i64 (spotN i n : Nat)) ∧ w' = w := by
  have key : ∀ x, spotN i n = x → Hid (Calls Tryz.prog 78 #[.int .i64 (i : Int), .int .i64 (n : Int)] w fun e w' => e = .returned (.int .i64 (x : Nat)) ∧ w' = w) → Calls Tryz.prog 78 #[.int .i64 (i : Int), .int .i64 (n : Int)] w fun e w' => e = .returned (.int .i64 (spotN i n : Nat)) ∧ w' = w := fun x h k => by rw [h]; exact k.out
  have b1 : bits BinOp.or IntKind.i64 0 1 = 1 := by decide +kernel
  have b2 : bits BinOp.or IntKind.i64 0 2 = 2 := by decide +kernel
  have b3 : bits BinOp.or IntKind.i64 1 2 = 3 := by decide +kernel
  by_cases h0 : i = 0
  · by_cases hn : i = n
    · refine key 3 (by unfold spotN; rw [if_pos h0, if_pos hn]) (Lib.hid ?_)
      clear key
      subst h0
      subst hn
      go_enter Tryz.func78, Tryz.ntmps78
      go_wp2
      go_ret
      exact ⟨rfl, rfl⟩
    · refine key 1 (by unfold spotN; rw [if_pos h0, if_neg hn]) (Lib.hid ?_)
      clear key
      subst h0
      have e2 : ((0 : Int) == (n : Int)) = false := by simp; omega
      have e3 : ¬ (0 : Int) = (n : Int) := by omega
      go_enter Tryz.func78, Tryz.ntmps78
      go_wp2
      go_ret
      exact ⟨rfl, rfl⟩
  · have e1 : ((i : Int) == 0) = false := by simp; omega
    by_cases hn : i = n
    · refine key 2 (by unfold spotN; rw [if_neg h0, if_pos hn]) (Lib.hid ?_)
      clear key
      subst hn
      have e4 : ((i : Int) == (i : Int)) = true := by simp
      go_enter Tryz.func78, Tryz.ntmps78
      go_wp2
      go_ret
      exact ⟨rfl, rfl⟩
    · refine key 0 (by unfold spotN; rw [if_neg h0, if_neg hn]) (Lib.hid ?_)
      clear key
      have e2 : ((i : Int) == (n : Int)) = false := by simp; omega
      go_enter Tryz.func78, Tryz.ntmps78
      go_wp2
      go_ret
      exact ⟨rfl, rfl⟩
/-- Where a piece is met by nothing, as a value. -/
def emV (E : Nat → Bool) : Value := .agg #[.bool (E 0), .bool (E 1), .bool (E 2), .bool (E 3)]
theorem meve_any (w : World) : Calls Tryz.prog 77 #[] w fun e w' => e = .returned (emV (fun _ => true)) ∧ Below w.heap.size w w' := by
  have hb : Below w.heap.size w (w.alloc (.cells #[.bool true, .bool true, .bool true, .bool true] 86)) := (Below.refl _ _).alloc (Nat.le_refl _) _
  go_enter Tryz.func77, Tryz.ntmps77
  go_wp2
  refine bodyPost_ret (v := emV (fun _ => true)) ?_ rfl ⟨rfl, ?_⟩
  · simp [results, Tryz.results77, go_sem, emV]
  · exact hb
/-- A piece lies in block b. -/
def PcB (w : World) (b m : Nat) (E : Nat → Bool) (gf gl : Nat) : Prop := w.heap[b]? = some (.cells #[.bool (E 0), .bool (E 1), .bool (E 2), .bool (E 3), .int .i64 (m : Int), .slice (some ⟨gf, 0, none⟩) (4 * m) (4 * m), .int .i64 (m : Int), .slice (some ⟨gl, 0, none⟩) (4 * m) (4 * m)] 88 (0, 0))
/-- Eight stores of a piece. -/
def put8 (w : World) (b m : Nat) (E : Nat → Bool) (gf gl : Nat) : World := (((((((w.setCell ⟨b, 0, none⟩ (.bool (E 0))).setCell ⟨b, 1, none⟩ (.bool (E 1))).setCell ⟨b, 2, none⟩ (.bool (E 2))).setCell ⟨b, 3, none⟩ (.bool (E 3))).setCell ⟨b, 4, none⟩ (.int .i64 (m : Int))).setCell ⟨b, 5, none⟩ (.slice (some ⟨gf, 0, none⟩) (4 * m) (4 * m))).setCell ⟨b, 6, none⟩ (.int .i64 (m : Int))).setCell ⟨b, 7, none⟩ (.slice (some ⟨gl, 0, none⟩) (4 * m) (4 * m))
theorem put8_block {w : World} {b k m : Nat} {E : Nat → Bool} {gf gl : Nat} (hk : k ≠ b) : (put8 w b m E gf gl).heap[k]? = w.heap[k]? := by
  unfold put8
  rw [Below.heap_setCell _ _ _ k hk, Below.heap_setCell _ _ _ k hk, Below.heap_setCell _ _ _ k hk, Below.heap_setCell _ _ _ k hk, Below.heap_setCell _ _ _ k hk, Below.heap_setCell _ _ _ k hk, Below.heap_setCell _ _ _ k hk, Below.heap_setCell _ _ _ k hk]
theorem put8_size {w : World} {b m : Nat} {E : Nat → Bool} {gf gl : Nat} : (put8 w b m E gf gl).heap.size = w.heap.size := by unfold put8; simp
theorem put8_onl {w : World} {b m : Nat} {E : Nat → Bool} {gf gl : Nat} : Onl b w (put8 w b m E gf gl) :=
  ((((((((Onl.refl b w).setCell 0 _).setCell 1 _).setCell 2 _).setCell 3 _).setCell 4 _).setCell 5 _).setCell 6 _).setCell 7 _
theorem put8_is {w : World} {b m : Nat} {E : Nat → Bool} {gf gl : Nat} {x0 x1 x2 x3 x4 x5 x6 x7 : Value} (h : w.heap[b]? = some (.cells #[x0, x1, x2, x3, x4, x5, x6, x7] 88 (0, 0))) : PcB (put8 w b m E gf gl) b m E gf gl := by
  unfold put8 PcB
  generalize (4 * m) = n4
  have h1 := rg_setCell (i := 0) h (.bool (E 0))
  have h2 := rg_setCell (i := 1) h1 (.bool (E 1))
  have h3 := rg_setCell (i := 2) h2 (.bool (E 2))
  have h4 := rg_setCell (i := 3) h3 (.bool (E 3))
  have h5 := rg_setCell (i := 4) h4 (.int .i64 (m : Int))
  have h6 := rg_setCell (i := 5) h5 (.slice (some ⟨gf, 0, none⟩) n4 n4)
  have h7 := rg_setCell (i := 6) h6 (.int .i64 (m : Int))
  have h8 := rg_setCell (i := 7) h7 (.slice (some ⟨gl, 0, none⟩) n4 n4)
  simp only [List.setIfInBounds_toArray, List.set_cons_zero, List.set_cons_succ] at h8
  exact h8
/-- The two tables of a piece. -/
structure Pc (w : World) (m b0 : Nat) (gf gl : Nat) (F G : Nat → Nat → Prop) : Prop where
  f : Tb w gf 4 m F
  l : Tb w gl 4 m G
  ne : gf ≠ gl
  bf : b0 ≤ gf
  bl : b0 ≤ gl
theorem Pc.kept {w w' : World} {m b0 gf gl : Nat} {F G : Nat → Nat → Prop} (h : Pc w m b0 gf gl F G) (h1 : w'.heap[gf]? = w.heap[gf]?) (h2 : w'.heap[gl]? = w.heap[gl]?) : Pc w' m b0 gf gl F G := ⟨h.f.kept h1, h.l.kept h2, h.ne, h.bf, h.bl⟩
theorem Pc.next {w w' : World} {m b0 gf gl : Nat} {F G : Nat → Nat → Prop} (h : Pc w m b0 gf gl F G) (hb : Below w.heap.size w w') : Pc w' m b0 gf gl F G := ⟨h.f.next hb, h.l.next hb, h.ne, h.bf, h.bl⟩
theorem Pc.onl {w w' : World} {m b0 gf gl b : Nat} {F G : Nat → Nat → Prop} (h : Pc w m b0 gf gl F G) (hb : Onl b w w') (h1 : gf ≠ b) (h2 : gl ≠ b) : Pc w' m b0 gf gl F G := ⟨h.f.onl hb h1, h.l.onl hb h2, h.ne, h.bf, h.bl⟩
theorem Pc.chg {C : Nat → Prop} {w w' : World} {m b0 gf gl : Nat} {F G : Nat → Nat → Prop} (h : Pc w m b0 gf gl F G) (hb : Chg C w w') (h1 : ¬ C gf) (h2 : ¬ C gl) : Pc w' m b0 gf gl F G := ⟨h.f.chg hb h1, h.l.chg hb h2, h.ne, h.bf, h.bl⟩
theorem Pc.less {w : World} {m b0 b1 gf gl : Nat} {F G : Nat → Nat → Prop} (h : Pc w m b0 gf gl F G) (hb : b1 ≤ b0) : Pc w m b1 gf gl F G := ⟨h.f, h.l, h.ne, Nat.le_trans hb h.bf, Nat.le_trans hb h.bl⟩
theorem Pc.congr {w : World} {m b0 gf gl : Nat} {F G F' G' : Nat → Nat → Prop} (h : Pc w m b0 gf gl F G) (h1 : ∀ i x, i < 4 → x < 64 * m → (F i x ↔ F' i x)) (h2 : ∀ i x, i < 4 → x < 64 * m → (G i x ↔ G' i x)) : Pc w m b0 gf gl F' G' := ⟨h.f.congr h1, h.l.congr h2, h.ne, h.bf, h.bl⟩
set_option maxHeartbeats 4000000 in
set_option maxRecDepth 100000 in
theorem mnot_any {w : World} {d : Bd} {n : Nat} {T B : Nat → Nat → Prop} (hd : d.ok) (h : Bl w d n T B) (E : Nat → Bool) :
    Calls Tryz.prog 74 #[.pointer (some ⟨d.b, 0, none⟩), emV E] w fun e w' => ∃ gf gl, e = .returned (pcV d.m E gf gl) ∧ Pc w' d.m w.heap.size gf gl (fun _ _ => False) (fun _ _ => False) ∧ Below w.heap.size w w' := by
  have hdm := hd.m
  have CT : Hid (∀ W, Calls Tryz.prog 38 #[.int .i64 4, .int .i64 (d.m : Int)] W fun e w' => ∃ g, e = .returned (.agg #[.int .i64 (d.m : Int), .slice (some ⟨g, 0, none⟩) (4 * d.m) (4 * d.m)]) ∧ W.heap.size ≤ g ∧ Tb w' g 4 d.m (fun _ _ => False) ∧ Below W.heap.size W w') := Lib.hid fun W => mtab_any 4 d.m (by omega) W
  obtain ⟨W1, hW1⟩ : ∃ W1, (w.alloc (.cells #[.bool (E 0), .bool (E 1), .bool (E 2), .bool (E 3)] 86)).alloc (.cells #[.bool false, .bool false, .bool false, .bool false, .int .i64 0, .slice none 0 0, .int .i64 0, .slice none 0 0] 88) = W1 := ⟨_, rfl⟩
  have hb1 : Below w.heap.size w W1 := by rw [← hW1]; exact ((Below.refl _ _).alloc (Nat.le_refl _) _).alloc (by simp) _
  have hz1 : W1.heap.size = w.heap.size + 2 := by rw [← hW1]; simp
  have hx0 : W1.heap[w.heap.size]? = some (.cells #[.bool (E 0), .bool (E 1), .bool (E 2), .bool (E 3)] 86 (0, 0)) := by rw [← hW1]; exact (Below.heap_alloc _ _ _ (by simp)).trans (mt_heap_new _ _)
  have hx1 : W1.heap[w.heap.size + 1]? = some (.cells #[.bool false, .bool false, .bool false, .bool false, .int .i64 0, .slice none 0 0, .int .i64 0, .slice none 0 0] 88 (0, 0)) := by
    rw [← hW1]
    have := mt_heap_new (w.alloc (.cells #[.bool (E 0), .bool (E 1), .bool (E 2), .bool (E 3)] 86)) (.cells #[.bool false, .bool false, .bool false, .bool false, .int .i64 0, .slice none 0 0, .int .i64 0, .slice none 0 0] 88)
    rwa [World.size_alloc] at this
  have hlt := h.lt
  have HSK : Hid (∀ Z, Below W1.heap.size W1 Z → Z.cell? ⟨w.heap.size, 0, none⟩ = some (.bool (E 0)) ∧ Z.cell? ⟨w.heap.size, 1, none⟩ = some (.bool (E 1)) ∧ Z.cell? ⟨w.heap.size, 2, none⟩ = some (.bool (E 2)) ∧ Z.cell? ⟨w.heap.size, 3, none⟩ = some (.bool (E 3)) ∧ Z.cell? ⟨d.b, 0, none⟩ = some (.pointer (some ⟨d.p, 0, none⟩)) ∧ Z.cell? ⟨d.p, 0, none⟩ = some (.int .i64 (d.m : Int)) ∧ Below W1.heap.size W1 Z) := Lib.hid fun Z hZ => by
    have e0 := (hZ.block _ (by omega)).trans hx0
    have e1 := (hZ.block _ (by omega)).trans ((hb1.block _ hlt.1).trans h.blk)
    have e2 := (hZ.block _ (by omega)).trans ((hb1.block _ hlt.2.1).trans h.prog)
    exact ⟨rg_cell e0, rg_cell e0, rg_cell e0, rg_cell e0, rg_cell e1, rg_cell e2, hZ⟩
  have HX1 := Lib.hid hx1
  have HB1 := Lib.hid hb1
  have HW1 := Lib.hid hW1
  clear h hx0 hx1 hb1 hW1
  unfold emV
  go_enter Tryz.func74, Tryz.ntmps74
  go_wp2_with fail
  rw [HW1.out]
  clear HW1
  refine wp_region_L (st := [18]) (S := fun Z => Z.cell? ⟨w.heap.size, 0, none⟩ = some (.bool (E 0)) ∧ Z.cell? ⟨w.heap.size, 1, none⟩ = some (.bool (E 1)) ∧ Z.cell? ⟨w.heap.size, 2, none⟩ = some (.bool (E 2)) ∧ Z.cell? ⟨w.heap.size, 3, none⟩ = some (.bool (E 3)) ∧ Z.cell? ⟨d.b, 0, none⟩ = some (.pointer (some ⟨d.p, 0, none⟩)) ∧ Z.cell? ⟨d.p, 0, none⟩ = some (.int .i64 (d.m : Int)) ∧ Below W1.heap.size W1 Z) (by kernel_rfl) (HSK.out _ (drew_below W1)) (fun hHeld => ?_)
  generalize W1.drew = w8 at *
  refine tkL 0 (v := ?_) rfl ?_ ?_
  rotate_left
  · (intro w hSw; obtain ⟨q0, q1, q2, q3, q4, q5, _⟩ := hSw; go_simp; try with_reducible rfl)
  try simp only [nrm]
  refine tkL 1 (v := ?_) rfl ?_ ?_
  rotate_left
  · (intro w hSw; obtain ⟨q0, q1, q2, q3, q4, q5, _⟩ := hSw; go_simp; try with_reducible rfl)
  try simp only [nrm]
  refine tkL 2 (v := ?_) rfl ?_ ?_
  rotate_left
  · (intro w hSw; obtain ⟨q0, q1, q2, q3, q4, q5, _⟩ := hSw; go_simp; try with_reducible rfl)
  try simp only [nrm]
  refine tkL 3 (v := ?_) rfl ?_ ?_
  rotate_left
  · (intro w hSw; obtain ⟨q0, q1, q2, q3, q4, q5, _⟩ := hSw; go_simp; try with_reducible rfl)
  try simp only [nrm]
  refine tkL 4 (v := ?_) rfl ?_ ?_
  rotate_left
  · (intro w hSw; obtain ⟨q0, q1, q2, q3, q4, q5, _⟩ := hSw; go_simp; try with_reducible rfl)
  try simp only [nrm]
  refine tkL 5 (v := ?_) rfl ?_ ?_
  rotate_left
  · (intro w hSw; obtain ⟨q0, q1, q2, q3, q4, q5, _⟩ := hSw; go_simp; try with_reducible rfl)
  try simp only [nrm]
  refine tkL 6 (v := ?_) rfl ?_ ?_
  rotate_left
  · (intro w hSw; obtain ⟨q0, q1, q2, q3, q4, q5, _⟩ := hSw; go_simp; try with_reducible rfl)
  try simp only [nrm]
  refine tkL 7 (v := ?_) rfl ?_ ?_
  rotate_left
  · (intro w hSw; obtain ⟨q0, q1, q2, q3, q4, q5, _⟩ := hSw; go_simp; try with_reducible rfl)
  try simp only [nrm]
  refine tkL 9 (v := ?_) rfl ?_ ?_
  rotate_left
  · (intro w hSw; obtain ⟨q0, q1, q2, q3, q4, q5, _⟩ := hSw; go_simp; try with_reducible rfl)
  try simp only [nrm]
  refine tkL 10 (v := ?_) rfl ?_ ?_
  rotate_left
  · (intro w hSw; obtain ⟨q0, q1, q2, q3, q4, q5, _⟩ := hSw; go_simp; try with_reducible rfl)
  try simp only [nrm]
  refine tkL 11 (v := ?_) rfl ?_ ?_
  rotate_left
  · (intro w hSw; obtain ⟨q0, q1, q2, q3, q4, q5, _⟩ := hSw; go_simp; try with_reducible rfl)
  try simp only [nrm]
  refine tkL 12 (v := ?_) rfl ?_ ?_
  rotate_left
  · (intro w hSw; obtain ⟨q0, q1, q2, q3, q4, q5, _⟩ := hSw; go_simp; try with_reducible rfl)
  try simp only [nrm]
  refine tkL 13 (v := ?_) rfl ?_ ?_
  rotate_left
  · (intro w hSw; obtain ⟨q0, q1, q2, q3, q4, q5, _⟩ := hSw; go_simp; try with_reducible rfl)
  try simp only [nrm]
  refine tkL 14 (v := ?_) rfl ?_ ?_
  rotate_left
  · (intro w hSw; obtain ⟨q0, q1, q2, q3, q4, q5, _⟩ := hSw; go_simp; try with_reducible rfl)
  try simp only [nrm]
  refine tkL 15 (v := ?_) rfl ?_ ?_
  rotate_left
  · (intro w hSw; obtain ⟨q0, q1, q2, q3, q4, q5, _⟩ := hSw; go_simp; try with_reducible rfl)
  try simp only [nrm]
  refine rdL 8 rfl (fun K hK => ?_)
  go_simp
  refine (CT.out _).mono ?_
  rintro e w9 ⟨g8, rfl, hg8, ht8, hb9⟩
  have hq8 := hHeld.2.2.2.2.2.2.size
  have hH9 := HSK.out _ (hHeld.2.2.2.2.2.2.trans (hb9.mono hHeld.2.2.2.2.2.2.size))
  refine hK.out _ _ hH9 (fun hHeld => ?_)
  have hz8 : g8 < w9.heap.size := ht8.lt
  clear hK K hb9 hH9
  obtain ⟨w8, hw8⟩ : ∃ x, x = w9 := ⟨_, rfl⟩
  subst hw8
  try simp only [nrm]
  refine rdL 16 rfl (fun K hK => ?_)
  go_simp
  refine (CT.out _).mono ?_
  rintro e w9 ⟨g16, rfl, hg16, ht16, hb9⟩
  have ht8 := ht8.next hb9
  have hl8 := ht8.lt
  have hq16 := hHeld.2.2.2.2.2.2.size
  have hH9 := HSK.out _ (hHeld.2.2.2.2.2.2.trans (hb9.mono hHeld.2.2.2.2.2.2.size))
  refine hK.out _ _ hH9 (fun hHeld => ?_)
  clear hl8
  clear hK K hb9 hH9
  obtain ⟨w8, hw8⟩ : ∃ x, x = w9 := ⟨_, rfl⟩
  subst hw8
  try simp only [nrm]
  refine tkL 17 (v := ?_) rfl ?_ ?_
  rotate_left
  · (intro w hSw; obtain ⟨q0, q1, q2, q3, q4, q5, _⟩ := hSw; go_simp; try with_reducible rfl)
  try simp only [nrm]
  have hbz := hHeld.2.2.2.2.2.2
  have hxz := (hbz.block _ (by omega)).trans HX1.out
  have y0 : w8.cell? ⟨w.heap.size + 1, 0, none⟩ = some (.bool false) := rg_cell hxz
  have y1 : w8.cell? ⟨w.heap.size + 1, 1, none⟩ = some (.bool false) := rg_cell hxz
  have y2 : w8.cell? ⟨w.heap.size + 1, 2, none⟩ = some (.bool false) := rg_cell hxz
  have y3 : w8.cell? ⟨w.heap.size + 1, 3, none⟩ = some (.bool false) := rg_cell hxz
  have y4 : w8.cell? ⟨w.heap.size + 1, 4, none⟩ = some (.int .i64 0) := rg_cell hxz
  have y5 : w8.cell? ⟨w.heap.size + 1, 5, none⟩ = some (.slice none 0 0) := rg_cell hxz
  have y6 : w8.cell? ⟨w.heap.size + 1, 6, none⟩ = some (.int .i64 0) := rg_cell hxz
  have y7 : w8.cell? ⟨w.heap.size + 1, 7, none⟩ = some (.slice none 0 0) := rg_cell hxz
  have f0 : w8.frozen? ⟨w.heap.size + 1, 0, none⟩ = false := rg_frozen hxz
  have f1 : w8.frozen? ⟨w.heap.size + 1, 1, none⟩ = false := rg_frozen hxz
  have f2 : w8.frozen? ⟨w.heap.size + 1, 2, none⟩ = false := rg_frozen hxz
  have f3 : w8.frozen? ⟨w.heap.size + 1, 3, none⟩ = false := rg_frozen hxz
  have f4 : w8.frozen? ⟨w.heap.size + 1, 4, none⟩ = false := rg_frozen hxz
  have f5 : w8.frozen? ⟨w.heap.size + 1, 5, none⟩ = false := rg_frozen hxz
  have f6 : w8.frozen? ⟨w.heap.size + 1, 6, none⟩ = false := rg_frozen hxz
  have f7 : w8.frozen? ⟨w.heap.size + 1, 7, none⟩ = false := rg_frozen hxz
  refine wpAnyL_ready (rs := [18]) (by kernel_rfl) (by simp) ?_
  refine AllReadyL.store (o := _) rfl (by decide) (by decide) (fun K hK => ?_) AllReadyL.nil
  go_simp
  refine hK.out _ _ ?_
  clear hK K
  try simp only [nrm]
  refine wpAnyL_done (by kernel_rfl) ?_ _
  have hne : g8 ≠ g16 := by omega
  go_wp2_with fail
  refine bodyPost_ret (v := pcV d.m E g8 g16) ?_ rfl ⟨g8, g16, rfl, ?_⟩
  · simp [results, Tryz.results74, go_sem, pcV, y0, y1, y2, y3, y4, y5, y6, y7]
  · show Pc (put8 w8 (w.heap.size + 1) d.m E g8 g16) d.m w.heap.size g8 g16 _ _ ∧ Below w.heap.size w (put8 w8 (w.heap.size + 1) d.m E g8 g16)
    exact ⟨⟨ht8.onl put8_onl (by omega), ht16.onl put8_onl (by omega), hne, by omega, by omega⟩, (HB1.out.trans (hbz.mono (by omega))).trans (put8_onl.below (by omega) (by have := hbz.size; have := HB1.out.size; omega))⟩
end Go.Proofs.YtmlpkimbcjkbkaaGreatDoor
