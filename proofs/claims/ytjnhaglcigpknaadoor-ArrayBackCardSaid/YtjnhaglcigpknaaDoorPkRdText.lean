/-
  CONTRACTS of strings.Clone (off the shelf), and of the Reader's text and Text: what each answers, where the Reader stands behind it, which error it bears.
-/
import Derived.Test.YtjnhaglcigpknaaDoorPkRdNum
import Derived.Test.YtjnhaglcigpknaaDoorShelf
namespace Go.Proofs.YtjnhaglcigpknaaDoor
open Go.RowKit

set_option maxHeartbeats 400000 in
theorem rd_clone (s : ByteArray) (w : World) (hs : s.size ≤ 281474976710656) :
    Calls Tryd.prog 43 #[.string s] w fun e w' => e = .returned (.string s) ∧ Below w.heap.size w w' := by
  go_enter Tryd.func43, Tryd.ntmps43
  go_wp2_with fail
  refine (Tryd.stringslite_Clone s _ hs).mono ?_
  rintro e w1 ⟨rfl, hb⟩
  go_wp2_with fail
  go_ret
  exact ⟨rfl, hb⟩

/-- text, from behind the digits on (the place, the error, the number). -/
def txE1 (d : Nat × Nat × Nat) (most : Nat) : Nat := if d.2.1 ≠ 0 then d.2.1 else if most < d.2.2 then 12 else 0
def txA2 (s : ByteArray) (d : Nat × Nat × Nat) (most : Nat) : Nat := signA s d.1 (txE1 d most) 58
def txE2 (s : ByteArray) (d : Nat × Nat × Nat) (most : Nat) : Nat := signE s d.1 (txE1 d most) 58
def txE3 (s : ByteArray) (d : Nat × Nat × Nat) (most : Nat) : Nat := if txE2 s d most ≠ 0 then txE2 s d most else if s.size - txA2 s d most < d.2.2 then 2 else 0
/-- What text does: the place, the error, the answer. -/
def txP (s : ByteArray) (i k most : Nat) : Nat × Nat × ByteArray :=
  if txE3 s (dig s i k maxInt) most ≠ 0 then (txA2 s (dig s i k maxInt) most, txE3 s (dig s i k maxInt) most, ⟨#[]⟩)
  else (txA2 s (dig s i k maxInt) most + (dig s i k maxInt).2.2, 0, s.extract (txA2 s (dig s i k maxInt) most) (txA2 s (dig s i k maxInt) most + (dig s i k maxInt).2.2))

set_option maxHeartbeats 2000000 in
theorem rd_text (b : Nat) (s : ByteArray) (i j k most : Nat) (w : World) (h : Rd w b s i j k) (hi : i ≤ s.size) (hs1 : s.size ≤ maxLen) :
    Calls Tryd.prog 48 #[.pointer (some ⟨b, 0, none⟩), .int .i64 most] w fun e w' => e = .returned (.string (txP s i k most).2.2) ∧ RdPost b s (txP s i k most).1 j (txP s i k most).2.1 w w' := by
  have D1 := Lib.hid (fun w h => digits_any b s i j k maxInt w h hi hs1 (by unfold maxInt; omega))
  have hdl := dig_le s i k maxInt hi
  unfold txP
  generalize dig s i k maxInt = d at *
  obtain ⟨p, q, n⟩ := d
  simp only at hdl D1 ⊢
  have D2 := Lib.hid (fun w h => sign_any b s p j (txE1 (p, q, n) most) 58 w h hdl.1 hs1)
  have ha2 : txA2 s (p, q, n) most ≤ s.size := signA_le _ _ _ _ hdl.1
  change Hid (∀ w, Rd w b s p j (txE1 (p, q, n) most) → Calls _ _ _ w fun e w' => e = .returned (.tuple #[]) ∧ RdPost b s (txA2 s (p, q, n) most) j (txE2 s (p, q, n) most) w w') at D2
  have hn2 : (n : Int) ≤ 9223372036854775807 := by have := hdl.2; unfold maxInt at this; omega
  have hmi : (maxInt : Int) = 9223372036854775807 := rfl
  have HM := Lib.hid hmi
  have hs2 := hs1
  unfold maxLen at hs2
  clear hmi hdl
  by_cases hq : q ≠ 0
  · have e1 : txE1 (p, q, n) most = q := by unfold txE1; rw [if_pos hq]
    have e2 : txE2 s (p, q, n) most = q := by unfold txE2; rw [e1]; unfold signE; rw [if_pos hq]
    have e3 : txE3 s (p, q, n) most = q := by unfold txE3; rw [e2, if_pos hq]
    rw [e3, if_pos hq]
    rw [e1, e2] at D2
    generalize txA2 s (p, q, n) most = a at *
    have k1 : ((q : Int) == 0) = false := by rw [Bool.eq_false_iff]; simp; omega
    have k2 : ((q : Int) != 0) = true := by rw [bne_iff_ne]; omega
    clear e1 e2 e3 hq
    go_enter Tryd.func48, Tryd.ntmps48
    go_wp2_with fail
    refine (D1.out _ h).mono ?_
    rintro e w1 ⟨rfl, h1, o1⟩
    have h1' := h1
    obtain ⟨hs, ha, ho, he, f1, f2, f3⟩ := h1'
    go_wp2_with fail
    refine (D2.out _ h1).mono ?_
    rintro e w2 ⟨rfl, h2, o2⟩
    clear hs ha ho he f1 f2 f3
    have h2' := h2
    obtain ⟨hs, ha, ho, he, f1, f2, f3⟩ := h2'
    go_wp2_with fail
    go_quiet (fail)
    go_wp2_with fail
    go_ret
    exact ⟨rfl, h2.drewN, (o1.trans o2).drewN⟩
  · obtain rfl : q = 0 := by omega
    by_cases hb : most < n
    · have e1 : txE1 (p, 0, n) most = 12 := by unfold txE1; rw [if_neg (by simp), if_pos hb]
      have e2 : txE2 s (p, 0, n) most = 12 := by unfold txE2; rw [e1]; rfl
      have e3 : txE3 s (p, 0, n) most = 12 := by unfold txE3; rw [e2]; rfl
      rw [e3, if_pos (by decide)]
      rw [e1, e2] at D2
      generalize txA2 s (p, 0, n) most = a at *
      clear e1 e2 e3 hq
      go_enter Tryd.func48, Tryd.ntmps48
      go_wp2_with fail
      refine (D1.out _ h).mono ?_
      rintro e w1 ⟨rfl, h1, o1⟩
      have h1' := h1
      obtain ⟨hs, ha, ho, he, f1, f2, f3⟩ := h1'
      go_wp2_with fail
      refine (D2.out _ (h1.setE 12)).mono ?_
      rintro e w2 ⟨rfl, h2, o2⟩
      clear hs ha ho he f1 f2 f3
      have h2' := h2
      obtain ⟨hs, ha, ho, he, f1, f2, f3⟩ := h2'
      go_wp2_with fail
      go_quiet (fail)
      go_wp2_with fail
      go_ret
      exact ⟨rfl, h2.drewN, ((o1.setCell 3 _).trans o2).drewN⟩
    · have e1 : txE1 (p, 0, n) most = 0 := by unfold txE1; rw [if_neg (by simp), if_neg hb]
      rw [e1] at D2
      unfold txE3
      generalize txA2 s (p, 0, n) most = a at *
      generalize txE2 s (p, 0, n) most = e2 at *
      clear hq e1
      by_cases h2 : e2 ≠ 0
      · rw [if_pos h2, if_pos h2]
        have k1 : ((e2 : Int) == 0) = false := by rw [Bool.eq_false_iff]; simp; omega
        have k2 : ((e2 : Int) != 0) = true := by rw [bne_iff_ne]; omega
        clear h2
        go_enter Tryd.func48, Tryd.ntmps48
        go_wp2_with fail
        refine (D1.out _ h).mono ?_
        rintro e w1 ⟨rfl, h1, o1⟩
        have h1' := h1
        obtain ⟨hs, ha, ho, he, f1, f2, f3⟩ := h1'
        go_wp2_with fail
        refine (D2.out _ h1).mono ?_
        rintro e w2 ⟨rfl, h2, o2⟩
        clear hs ha ho he f1 f2 f3
        have h2' := h2
        obtain ⟨hs, ha, ho, he, f1, f2, f3⟩ := h2'
        go_wp2_with fail
        go_quiet (fail)
        go_wp2_with fail
        go_ret
        exact ⟨rfl, h2.drewN, (o1.trans o2).drewN⟩
      · obtain rfl : e2 = 0 := by omega
        by_cases h3 : s.size - a < n
        · rw [if_neg h2, if_pos h3, if_pos (by decide)]
          clear h2
          go_enter Tryd.func48, Tryd.ntmps48
          go_wp2_with fail
          refine (D1.out _ h).mono ?_
          rintro e w1 ⟨rfl, h1, o1⟩
          have h1' := h1
          obtain ⟨hs, ha, ho, he, f1, f2, f3⟩ := h1'
          go_wp2_with fail
          refine (D2.out _ h1).mono ?_
          rintro e w2 ⟨rfl, h2, o2⟩
          clear hs ha ho he f1 f2 f3
          have h2' := h2
          obtain ⟨hs, ha, ho, he, f1, f2, f3⟩ := h2'
          have y1 := IntWalk.i64_in ((s.size : Int) - (a : Int)) (by omega)
          have y2 : decide ((s.size : Int) - (a : Int) < (n : Int)) = true := by simp; omega
          go_wp2_with fail
          go_quiet (fail)
          go_wp2_with fail
          go_ret
          exact ⟨rfl, h2.drewN.setE 2, (o1.trans o2).drewN.setCell 3 _⟩
        · rw [if_neg h2, if_neg h3, if_neg (by simp)]
          have hnb : n ≤ s.size - a := by omega
          clear h2 h3
          go_enter Tryd.func48, Tryd.ntmps48
          go_wp2_with fail
          refine (D1.out _ h).mono ?_
          rintro e w1 ⟨rfl, h1, o1⟩
          have h1' := h1
          obtain ⟨hs, ha, ho, he, f1, f2, f3⟩ := h1'
          go_wp2_with fail
          refine (D2.out _ h1).mono ?_
          rintro e w2 ⟨rfl, h2, o2⟩
          clear hs ha ho he f1 f2 f3
          have h2' := h2
          obtain ⟨hs, ha, ho, he, f1, f2, f3⟩ := h2'
          have y1 := IntWalk.i64_in ((s.size : Int) - (a : Int)) (by omega)
          have y2 : decide ((s.size : Int) - (a : Int) < (n : Int)) = false := by simp; omega
          go_wp2_with fail
          go_quiet (fail)
          clear y1 y2
          go_wp2_with fail
          obtain ⟨W, hW⟩ : ∃ W, W = (w2.drewN nq).setCell ⟨b, 1, none⟩ (.int .i64 ((a : Int) + (n : Int))) := ⟨_, rfl⟩
          rw [← hW]
          have h3 : Rd W b s (a + n) j 0 := by rw [hW]; exact h2.drewN.setA (a + n)
          have o3 : Only b w2 W := by rw [hW]; exact (Only.refl _ _).drewN.setCell 1 _
          clear hW hs ha ho he f1 f2 f3
          have h3' := h3
          obtain ⟨hs, ha, ho, he, f1, f2, f3⟩ := h3'
          have z1 := IntWalk.i64_in (a : Int) (by omega)
          have z2 : ((a : Int) + (n : Int)).toNat = a + n := by omega
          have z3 : (a : Int) ≤ (a : Int) + (n : Int) := by omega
          have z4 : (a : Int) + (n : Int) ≤ (s.size : Int) := by omega
          go_quiet (fail)
          go_wp2_with fail
          go_ret
          exact ⟨rfl, h3.drewN, ((o1.trans o2).trans o3).drewN⟩

theorem txP_size (s : ByteArray) (i k most : Nat) : (txP s i k most).2.2.size ≤ s.size := by
  unfold txP
  by_cases h : txE3 s (dig s i k maxInt) most ≠ 0
  · rw [if_pos h]; exact Nat.zero_le _
  · rw [if_neg h]; simp; omega

set_option maxHeartbeats 1000000 in
theorem Text_any (b : Nat) (s : ByteArray) (i j k most : Nat) (w : World) (h : Rd w b s i j k) (hi : i ≤ s.size) (hs1 : s.size ≤ 281474976710656) :
    Calls Tryd.prog 39 #[.pointer (some ⟨b, 0, none⟩), .int .i64 most] w fun e w' => e = .returned (.string (txP s i k most).2.2) ∧ RdPost b s (txP s i k most).1 j (txP s i k most).2.1 w w' := by
  have hz := txP_size s i k most
  have D1 := Lib.hid (rd_text b s i j k most w h hi (by unfold maxLen; omega))
  generalize txP s i k most = t at *
  go_enter Tryd.func39, Tryd.ntmps39
  go_wp2_with fail
  refine D1.out.mono ?_
  rintro e w1 ⟨rfl, h1, o1⟩
  go_wp2_with fail
  refine (rd_clone _ _ (by omega)).mono ?_
  rintro e w2 ⟨rfl, hb⟩
  go_wp2_with fail
  go_ret
  exact ⟨rfl, h1.below hb h1.lt, o1.trans (Only.of_below hb (Nat.le_refl _))⟩
end Go.Proofs.YtjnhaglcigpknaaDoor
