/-
  CONTRACTS of the reference's ReadInt, ReadText, ReadClose (scriberef01).
-/
import Derived.Test.YtbebkchfmebcmaaDoorCur2
namespace Go.Proofs.YtbebkchfmebcmaaDoor
open Go.RowKit

theorem eight_below (w : World) (a b c d e f g h : Array Value) (t : TypeId) : Below w.heap.size w ((((((((w.alloc (.cells a t)).alloc (.cells b t)).alloc (.cells c t)).alloc (.cells d t)).alloc (.cells e t)).alloc (.cells f t)).alloc (.cells g t)).alloc (.cells h t)) :=
  ((((((((Below.refl _ w).alloc (Nat.le_refl _) _).alloc (by simp) _).alloc (by simp; omega) _).alloc (by simp; omega) _).alloc (by simp; omega) _).alloc (by simp; omega) _).alloc (by simp; omega) _).alloc (by simp; omega) _
theorem six_below (w : World) (a b c d e f : Array Value) (t : TypeId) : Below w.heap.size w ((((((w.alloc (.cells a t)).alloc (.cells b t)).alloc (.cells c t)).alloc (.cells d t)).alloc (.cells e t)).alloc (.cells f t)) :=
  ((((((Below.refl _ w).alloc (Nat.le_refl _) _).alloc (by simp) _).alloc (by simp; omega) _).alloc (by simp; omega) _).alloc (by simp; omega) _).alloc (by simp; omega) _
set_option maxHeartbeats 8000000 in
theorem crint_any (s : ByteArray) (i j : Nat) (w : World) (hi : i ≤ s.size) (hz : s.size ≤ 100000) :
    Calls Tryd.prog 21 #[cv s i j 0] w fun e w' => (∃ v, e = .returned (.tuple #[cv s (riP s i).1 j (riP s i).2, v])) ∧ Below w.heap.size w w' := by
  have D1 := Lib.hid (fun w => csign_any s i j 0 105 w hi hz (by omega))
  by_cases hE : signE s i 0 105 = 0
  · have h3 := sign_ok hE
    have hlt := stB_lt h3.2.1
    have e1 : riP s i = (signA s (rnP s (i + 1)).1 (rnP s (i + 1)).2 59, signE s (rnP s (i + 1)).1 (rnP s (i + 1)).2 59) := by unfold riP; rw [if_neg (by omega)]
    rw [e1]
    rw [h3.2.2, hE] at D1
    clear e1 hE
    have hi1 : i + 1 ≤ s.size := hlt
    generalize i + 1 = b at *
    clear h3 hlt hi
    by_cases hm : stB s b 45 = true
    · have hlt := stB_lt hm
      have hx : s[b].toNat = 45 := by unfold stB at hm; rw [dif_pos hlt] at hm; simpa using hm
      have e2 : rnP s b = ((rd s (b + 1) 0).1, if (rd s (b + 1) 0).2.1 ≠ 0 then (rd s (b + 1) 0).2.1 else if 9223372036854775808 < (rd s (b + 1) 0).2.2 ∨ (rd s (b + 1) 0).2.2 = 0 then 3 else 0) := by unfold rnP; rw [if_pos hm]
      rw [e2]
      have D2 := Lib.hid (fun w => cdig_any s (b + 1) j 0 w hlt hz)
      have hp := rd_le s (b + 1) 0 hlt
      clear e2 hm
      generalize rd s (b + 1) 0 = r at *
      obtain ⟨p, e, n⟩ := r
      simp only at D2 hp ⊢
      have hb1 : (b : Int) < (s.size : Int) := by omega
      have HXX := Lib.hid hx
      clear hx
      have hx : (s[b].toNat : Int) = 45 := by have := HXX.out; omega
      have cases4 : (e ≠ 0 ∧ ((e : Int) == 0) = false ∧ decide ((e : Int) = 0) = false) ∨ (e = 0 ∧ decide ((9223372036854775808 : Int) < (n : Int)) = true ∧ 9223372036854775808 < n) ∨ (e = 0 ∧ n = 0) ∨ (e = 0 ∧ decide ((9223372036854775808 : Int) < (n : Int)) = false ∧ ¬ 9223372036854775808 < n ∧ n ≠ 0 ∧ ((n : Int) == 0) = false ∧ decide ((n : Int) = 0) = false) := by
        by_cases h1 : e = 0
        · by_cases h2 : 9223372036854775808 < n
          · exact .inr (.inl ⟨h1, decide_eq_true (by omega), h2⟩)
          · by_cases h4 : n = 0
            · exact .inr (.inr (.inl ⟨h1, h4⟩))
            · exact .inr (.inr (.inr ⟨h1, decide_eq_false (by omega), h2, h4, by rw [beq_eq_false_iff_ne]; omega, decide_eq_false (by omega)⟩))
        · exact .inl ⟨h1, by rw [beq_eq_false_iff_ne]; omega, decide_eq_false (by omega)⟩
      rcases cases4 with ⟨h1, k1, k2⟩ | ⟨rfl, k1, k2⟩ | ⟨rfl, rfl⟩ | ⟨rfl, k1, k2, k3, k4, k5⟩
      · rw [if_pos h1]
        have D3 := Lib.hid (fun w => csign_any s p j e 59 w hp hz (by omega))
        have hG : signE s p e 59 = e := sign_sticky _ _ _ _ (by omega)
        rw [hG] at D3 ⊢
        clear hG
        generalize signA s p e 59 = A at *
        unfold cv at D1 D2 D3 ⊢
        go_enter Tryd.func21, Tryd.ntmps21
        go_wp2_with fail
        refine (D1.out _).mono ?_
        rintro e w1 ⟨rfl, aa0, bb0, rfl⟩
        clear D1
        go_wp2_with fail
        refine (D2.out _).mono ?_
        rintro e w1 ⟨rfl, aa1, bb1, rfl⟩
        clear D2
        go_wp2_with fail
        refine (D3.out _).mono ?_
        rintro e w1 ⟨rfl, aa2, bb2, rfl⟩
        clear D3
        go_wp2_with fail
        refine bodyPost_ret (v := .tuple #[cv s A j e, .int .i64 0]) ?_ rfl ⟨⟨_, rfl⟩, eight_below _ _ _ _ _ _ _ _ _ _⟩
        simp [results, Tryd.results21, go_sem, cv]
      · rw [if_neg (by omega), if_pos (Or.inl k2)]
        have k3 : 9223372036854775808 < n := k2
        clear k2
        have D3 := Lib.hid (fun w => csign_any s p j 3 59 w hp hz (by omega))
        have hG : signE s p 3 59 = 3 := sign_sticky _ _ _ _ (by omega)
        rw [hG] at D3 ⊢
        clear hG
        generalize signA s p 3 59 = A at *
        unfold cv at D1 D2 D3 ⊢
        go_enter Tryd.func21, Tryd.ntmps21
        go_wp2_with fail
        refine (D1.out _).mono ?_
        rintro e w1 ⟨rfl, aa0, bb0, rfl⟩
        clear D1
        go_wp2_with fail
        refine (D2.out _).mono ?_
        rintro e w1 ⟨rfl, aa1, bb1, rfl⟩
        clear D2
        go_wp2_with fail
        refine (D3.out _).mono ?_
        rintro e w1 ⟨rfl, aa2, bb2, rfl⟩
        clear D3
        go_wp2_with fail
        refine bodyPost_ret (v := .tuple #[cv s A j 3, .int .i64 0]) ?_ rfl ⟨⟨_, rfl⟩, eight_below _ _ _ _ _ _ _ _ _ _⟩
        simp [results, Tryd.results21, go_sem, cv]
      · rw [if_neg (by omega), if_pos (Or.inr rfl)]
        have D3 := Lib.hid (fun w => csign_any s p j 3 59 w hp hz (by omega))
        have hG : signE s p 3 59 = 3 := sign_sticky _ _ _ _ (by omega)
        rw [hG] at D3 ⊢
        clear hG
        generalize signA s p 3 59 = A at *
        unfold cv at D1 D2 D3 ⊢
        go_enter Tryd.func21, Tryd.ntmps21
        go_wp2_with fail
        refine (D1.out _).mono ?_
        rintro e w1 ⟨rfl, aa0, bb0, rfl⟩
        clear D1
        go_wp2_with fail
        refine (D2.out _).mono ?_
        rintro e w1 ⟨rfl, aa1, bb1, rfl⟩
        clear D2
        go_wp2_with fail
        refine (D3.out _).mono ?_
        rintro e w1 ⟨rfl, aa2, bb2, rfl⟩
        clear D3
        go_wp2_with fail
        refine bodyPost_ret (v := .tuple #[cv s A j 3, .int .i64 0]) ?_ rfl ⟨⟨_, rfl⟩, eight_below _ _ _ _ _ _ _ _ _ _⟩
        simp [results, Tryd.results21, go_sem, cv]
      · rw [if_neg (by omega), if_neg (by omega)]
        have D3 := Lib.hid (fun w => csign_any s p j 0 59 w hp hz (by omega))
        by_cases hG : signE s p 0 59 = 0
        · rw [hG] at D3 ⊢
          clear hG
          generalize signA s p 0 59 = A at *
          unfold cv at D1 D2 D3 ⊢
          go_enter Tryd.func21, Tryd.ntmps21
          go_wp2_with fail
          refine (D1.out _).mono ?_
          rintro e w1 ⟨rfl, aa0, bb0, rfl⟩
          clear D1
          go_wp2_with fail
          refine (D2.out _).mono ?_
          rintro e w1 ⟨rfl, aa1, bb1, rfl⟩
          clear D2
          go_wp2_with fail
          refine (D3.out _).mono ?_
          rintro e w1 ⟨rfl, aa2, bb2, rfl⟩
          clear D3
          go_wp2_with fail
          refine bodyPost_ret (v := .tuple #[cv s A j 0, .int .i64 (wrap64 (IntKind.u64.wrap (-(n : Int))))]) ?_ rfl ⟨⟨_, rfl⟩, eight_below _ _ _ _ _ _ _ _ _ _⟩
          simp [results, Tryd.results21, go_sem, cv]
        · have g1 : ((signE s p 0 59 : Nat) : Int) ≠ 0 := by omega
          generalize signE s p 0 59 = G at *
          have g2 : ((G : Int) == 0) = false := by rw [beq_eq_false_iff_ne]; exact g1
          have g3 : decide ((G : Int) = 0) = false := decide_eq_false g1
          clear hG g1
          generalize signA s p 0 59 = A at *
          unfold cv at D1 D2 D3 ⊢
          go_enter Tryd.func21, Tryd.ntmps21
          go_wp2_with fail
          refine (D1.out _).mono ?_
          rintro e w1 ⟨rfl, aa0, bb0, rfl⟩
          clear D1
          go_wp2_with fail
          refine (D2.out _).mono ?_
          rintro e w1 ⟨rfl, aa1, bb1, rfl⟩
          clear D2
          go_wp2_with fail
          refine (D3.out _).mono ?_
          rintro e w1 ⟨rfl, aa2, bb2, rfl⟩
          clear D3
          go_wp2_with fail
          refine bodyPost_ret (v := .tuple #[cv s A j G, .int .i64 0]) ?_ rfl ⟨⟨_, rfl⟩, eight_below _ _ _ _ _ _ _ _ _ _⟩
          simp [results, Tryd.results21, go_sem, cv]
    · have e2 : rnP s b = ((rd s b 0).1, if (rd s b 0).2.1 ≠ 0 then (rd s b 0).2.1 else if 9223372036854775807 < (rd s b 0).2.2 then 3 else 0) := by unfold rnP; rw [if_neg hm]
      rw [e2]
      have D2 := Lib.hid (fun w => cdig_any s b j 0 w hi1 hz)
      have hp := rd_le s b 0 hi1
      clear e2
      generalize rd s b 0 = r at *
      obtain ⟨p, e, n⟩ := r
      simp only at D2 hp ⊢
      have cases3 : (e ≠ 0 ∧ ((e : Int) == 0) = false ∧ decide ((e : Int) = 0) = false) ∨ (e = 0 ∧ decide ((9223372036854775807 : Int) < (n : Int)) = true ∧ 9223372036854775807 < n) ∨ (e = 0 ∧ decide ((9223372036854775807 : Int) < (n : Int)) = false ∧ ¬ 9223372036854775807 < n) := by
        by_cases h1 : e = 0
        · by_cases h2 : 9223372036854775807 < n
          · exact .inr (.inl ⟨h1, decide_eq_true (by omega), h2⟩)
          · exact .inr (.inr ⟨h1, decide_eq_false (by omega), h2⟩)
        · exact .inl ⟨h1, by rw [beq_eq_false_iff_ne]; omega, decide_eq_false (by omega)⟩
      by_cases hlt : b < s.size
      · have hx : ((s[b].toNat : Int) == 45) = false := by unfold stB at hm; rw [dif_pos hlt] at hm; rw [beq_eq_false_iff_ne]; intro h; exact hm (by simp; omega)
        have hx2 : decide ((s[b].toNat : Int) = 45) = false := by simpa using hx
        have hb1 : (b : Int) < (s.size : Int) := by omega
        clear hm
        rcases cases3 with ⟨h1, k1, k2⟩ | ⟨rfl, k1, k2⟩ | ⟨rfl, k1, k2⟩
        · rw [if_pos h1]
          have D3 := Lib.hid (fun w => csign_any s p j e 59 w hp hz (by omega))
          have hG : signE s p e 59 = e := sign_sticky _ _ _ _ (by omega)
          rw [hG] at D3 ⊢
          clear hG
          generalize signA s p e 59 = A at *
          unfold cv at D1 D2 D3 ⊢
          go_enter Tryd.func21, Tryd.ntmps21
          go_wp2_with fail
          refine (D1.out _).mono ?_
          rintro e w1 ⟨rfl, aa0, bb0, rfl⟩
          clear D1
          go_wp2_with fail
          refine (D2.out _).mono ?_
          rintro e w1 ⟨rfl, aa1, bb1, rfl⟩
          clear D2
          go_wp2_with fail
          refine (D3.out _).mono ?_
          rintro e w1 ⟨rfl, aa2, bb2, rfl⟩
          clear D3
          go_wp2_with fail
          refine bodyPost_ret (v := .tuple #[cv s A j e, .int .i64 0]) ?_ rfl ⟨⟨_, rfl⟩, eight_below _ _ _ _ _ _ _ _ _ _⟩
          simp [results, Tryd.results21, go_sem, cv]
        · rw [if_neg (by omega), if_pos k2]
          have D3 := Lib.hid (fun w => csign_any s p j 3 59 w hp hz (by omega))
          have hG : signE s p 3 59 = 3 := sign_sticky _ _ _ _ (by omega)
          rw [hG] at D3 ⊢
          clear hG
          generalize signA s p 3 59 = A at *
          unfold cv at D1 D2 D3 ⊢
          go_enter Tryd.func21, Tryd.ntmps21
          go_wp2_with fail
          refine (D1.out _).mono ?_
          rintro e w1 ⟨rfl, aa0, bb0, rfl⟩
          clear D1
          go_wp2_with fail
          refine (D2.out _).mono ?_
          rintro e w1 ⟨rfl, aa1, bb1, rfl⟩
          clear D2
          go_wp2_with fail
          refine (D3.out _).mono ?_
          rintro e w1 ⟨rfl, aa2, bb2, rfl⟩
          clear D3
          go_wp2_with fail
          refine bodyPost_ret (v := .tuple #[cv s A j 3, .int .i64 0]) ?_ rfl ⟨⟨_, rfl⟩, eight_below _ _ _ _ _ _ _ _ _ _⟩
          simp [results, Tryd.results21, go_sem, cv]
        · rw [if_neg (by omega), if_neg k2]
          have D3 := Lib.hid (fun w => csign_any s p j 0 59 w hp hz (by omega))
          by_cases hG : signE s p 0 59 = 0
          · rw [hG] at D3 ⊢
            clear hG
            generalize signA s p 0 59 = A at *
            unfold cv at D1 D2 D3 ⊢
            go_enter Tryd.func21, Tryd.ntmps21
            go_wp2_with fail
            refine (D1.out _).mono ?_
            rintro e w1 ⟨rfl, aa0, bb0, rfl⟩
            clear D1
            go_wp2_with fail
            refine (D2.out _).mono ?_
            rintro e w1 ⟨rfl, aa1, bb1, rfl⟩
            clear D2
            go_wp2_with fail
            refine (D3.out _).mono ?_
            rintro e w1 ⟨rfl, aa2, bb2, rfl⟩
            clear D3
            go_wp2_with fail
            refine bodyPost_ret (v := .tuple #[cv s A j 0, .int .i64 n]) ?_ rfl ⟨⟨_, rfl⟩, eight_below _ _ _ _ _ _ _ _ _ _⟩
            simp [results, Tryd.results21, go_sem, cv]
          · have g1 : ((signE s p 0 59 : Nat) : Int) ≠ 0 := by omega
            generalize signE s p 0 59 = G at *
            have g2 : ((G : Int) == 0) = false := by rw [beq_eq_false_iff_ne]; exact g1
            have g3 : decide ((G : Int) = 0) = false := decide_eq_false g1
            clear hG g1
            generalize signA s p 0 59 = A at *
            unfold cv at D1 D2 D3 ⊢
            go_enter Tryd.func21, Tryd.ntmps21
            go_wp2_with fail
            refine (D1.out _).mono ?_
            rintro e w1 ⟨rfl, aa0, bb0, rfl⟩
            clear D1
            go_wp2_with fail
            refine (D2.out _).mono ?_
            rintro e w1 ⟨rfl, aa1, bb1, rfl⟩
            clear D2
            go_wp2_with fail
            refine (D3.out _).mono ?_
            rintro e w1 ⟨rfl, aa2, bb2, rfl⟩
            clear D3
            go_wp2_with fail
            refine bodyPost_ret (v := .tuple #[cv s A j G, .int .i64 0]) ?_ rfl ⟨⟨_, rfl⟩, eight_below _ _ _ _ _ _ _ _ _ _⟩
            simp [results, Tryd.results21, go_sem, cv]
      · obtain rfl : b = s.size := by omega
        have hb1 : decide ((s.size : Int) < (s.size : Int)) = false := by simp
        clear hm hlt
        rcases cases3 with ⟨h1, k1, k2⟩ | ⟨rfl, k1, k2⟩ | ⟨rfl, k1, k2⟩
        · rw [if_pos h1]
          have D3 := Lib.hid (fun w => csign_any s p j e 59 w hp hz (by omega))
          have hG : signE s p e 59 = e := sign_sticky _ _ _ _ (by omega)
          rw [hG] at D3 ⊢
          clear hG
          generalize signA s p e 59 = A at *
          unfold cv at D1 D2 D3 ⊢
          go_enter Tryd.func21, Tryd.ntmps21
          go_wp2_with fail
          refine (D1.out _).mono ?_
          rintro e w1 ⟨rfl, aa0, bb0, rfl⟩
          clear D1
          go_wp2_with fail
          refine (D2.out _).mono ?_
          rintro e w1 ⟨rfl, aa1, bb1, rfl⟩
          clear D2
          go_wp2_with fail
          refine (D3.out _).mono ?_
          rintro e w1 ⟨rfl, aa2, bb2, rfl⟩
          clear D3
          go_wp2_with fail
          refine bodyPost_ret (v := .tuple #[cv s A j e, .int .i64 0]) ?_ rfl ⟨⟨_, rfl⟩, eight_below _ _ _ _ _ _ _ _ _ _⟩
          simp [results, Tryd.results21, go_sem, cv]
        · rw [if_neg (by omega), if_pos k2]
          have D3 := Lib.hid (fun w => csign_any s p j 3 59 w hp hz (by omega))
          have hG : signE s p 3 59 = 3 := sign_sticky _ _ _ _ (by omega)
          rw [hG] at D3 ⊢
          clear hG
          generalize signA s p 3 59 = A at *
          unfold cv at D1 D2 D3 ⊢
          go_enter Tryd.func21, Tryd.ntmps21
          go_wp2_with fail
          refine (D1.out _).mono ?_
          rintro e w1 ⟨rfl, aa0, bb0, rfl⟩
          clear D1
          go_wp2_with fail
          refine (D2.out _).mono ?_
          rintro e w1 ⟨rfl, aa1, bb1, rfl⟩
          clear D2
          go_wp2_with fail
          refine (D3.out _).mono ?_
          rintro e w1 ⟨rfl, aa2, bb2, rfl⟩
          clear D3
          go_wp2_with fail
          refine bodyPost_ret (v := .tuple #[cv s A j 3, .int .i64 0]) ?_ rfl ⟨⟨_, rfl⟩, eight_below _ _ _ _ _ _ _ _ _ _⟩
          simp [results, Tryd.results21, go_sem, cv]
        · rw [if_neg (by omega), if_neg k2]
          have D3 := Lib.hid (fun w => csign_any s p j 0 59 w hp hz (by omega))
          by_cases hG : signE s p 0 59 = 0
          · rw [hG] at D3 ⊢
            clear hG
            generalize signA s p 0 59 = A at *
            unfold cv at D1 D2 D3 ⊢
            go_enter Tryd.func21, Tryd.ntmps21
            go_wp2_with fail
            refine (D1.out _).mono ?_
            rintro e w1 ⟨rfl, aa0, bb0, rfl⟩
            clear D1
            go_wp2_with fail
            refine (D2.out _).mono ?_
            rintro e w1 ⟨rfl, aa1, bb1, rfl⟩
            clear D2
            go_wp2_with fail
            refine (D3.out _).mono ?_
            rintro e w1 ⟨rfl, aa2, bb2, rfl⟩
            clear D3
            go_wp2_with fail
            refine bodyPost_ret (v := .tuple #[cv s A j 0, .int .i64 n]) ?_ rfl ⟨⟨_, rfl⟩, eight_below _ _ _ _ _ _ _ _ _ _⟩
            simp [results, Tryd.results21, go_sem, cv]
          · have g1 : ((signE s p 0 59 : Nat) : Int) ≠ 0 := by omega
            generalize signE s p 0 59 = G at *
            have g2 : ((G : Int) == 0) = false := by rw [beq_eq_false_iff_ne]; exact g1
            have g3 : decide ((G : Int) = 0) = false := decide_eq_false g1
            clear hG g1
            generalize signA s p 0 59 = A at *
            unfold cv at D1 D2 D3 ⊢
            go_enter Tryd.func21, Tryd.ntmps21
            go_wp2_with fail
            refine (D1.out _).mono ?_
            rintro e w1 ⟨rfl, aa0, bb0, rfl⟩
            clear D1
            go_wp2_with fail
            refine (D2.out _).mono ?_
            rintro e w1 ⟨rfl, aa1, bb1, rfl⟩
            clear D2
            go_wp2_with fail
            refine (D3.out _).mono ?_
            rintro e w1 ⟨rfl, aa2, bb2, rfl⟩
            clear D3
            go_wp2_with fail
            refine bodyPost_ret (v := .tuple #[cv s A j G, .int .i64 0]) ?_ rfl ⟨⟨_, rfl⟩, eight_below _ _ _ _ _ _ _ _ _ _⟩
            simp [results, Tryd.results21, go_sem, cv]
  · have hE2 : signE s i 0 105 ≠ 0 := hE
    have hst : stB s i 105 ≠ true := fun h => hE (by unfold signE; rw [if_neg (by omega), if_pos h])
    have hA : signA s i 0 105 = i := by unfold signA; rw [if_neg (by omega), if_neg hst]
    have e1 : riP s i = (i, signE s i 0 105) := by unfold riP; rw [if_pos hE2]
    rw [e1]
    rw [hA] at D1
    clear e1 hA hst hE
    generalize signE s i 0 105 = E at *
    have D2 := Lib.hid (fun w => cdig_any s i j E w hi hz)
    have e2 : rd s i E = (i, E, 0) := by unfold rd; rw [if_pos hE2]
    rw [e2] at D2
    clear e2
    have k1 : ((E : Int) == 0) = false := by rw [beq_eq_false_iff_ne]; omega
    have k2 : decide ((E : Int) = 0) = false := decide_eq_false (by omega)
    have D3 := Lib.hid (fun w => csign_any s i j E 59 w hi hz (by omega))
    have hG : signE s i E 59 = E := sign_sticky _ _ _ _ hE2
    have hA : signA s i E 59 = i := by unfold signA; rw [if_pos hE2]
    rw [hG, hA] at D3
    clear hG hA
    unfold cv at D1 D2 D3 ⊢
    go_enter Tryd.func21, Tryd.ntmps21
    go_wp2_with fail
    refine (D1.out _).mono ?_
    rintro e w1 ⟨rfl, aa0, bb0, rfl⟩
    clear D1
    go_wp2_with fail
    refine (D2.out _).mono ?_
    rintro e w1 ⟨rfl, aa1, bb1, rfl⟩
    clear D2
    go_wp2_with fail
    refine (D3.out _).mono ?_
    rintro e w1 ⟨rfl, aa2, bb2, rfl⟩
    clear D3
    go_wp2_with fail
    refine bodyPost_ret (v := .tuple #[cv s i j E, .int .i64 0]) ?_ rfl ⟨⟨_, rfl⟩, eight_below _ _ _ _ _ _ _ _ _ _⟩
    simp [results, Tryd.results21, go_sem, cv]
end Go.Proofs.YtbebkchfmebcmaaDoor
