/-
  CONTRACTS of the reference's ReadText (of at most as many bytes as there are), ReadClose (scriberef01).
-/
import Derived.Test.YtbebkchfmebcmaaDoorCur3
namespace Go.Proofs.YtbebkchfmebcmaaDoor
open Go.RowKit

set_option maxHeartbeats 8000000 in
theorem crtext_any (s : ByteArray) (i j : Nat) (w : World) (hi : i ≤ s.size) (hz : s.size ≤ 100000) :
    Calls Tryd.prog 22 #[cv s i j 0, .int .i64 s.size] w fun e w' => (∃ v, e = .returned (.tuple #[cv s (rtP s i).1 j (rtP s i).2, v])) ∧ Below w.heap.size w w' := by
  have D2 := Lib.hid (fun w => cdig_any s i j 0 w hi hz)
  have hp := rd_le s i 0 hi
  unfold rtP rt1
  generalize rd s i 0 = r at *
  obtain ⟨p, e, n⟩ := r
  simp only at D2 hp ⊢
  have x1 : IntKind.u64.wrap (s.size : Int) = (s.size : Int) := IntWalk.u64_in _ (by omega)
  have x2 : decide ((s.size : Int) < 0) = false := decide_eq_false (by omega)
  have x3 : decide ((0 : Int) ≤ (s.size : Int)) = true := decide_eq_true (by omega)
  have cases3 : (e ≠ 0 ∧ ((e : Int) == 0) = false ∧ decide ((e : Int) = 0) = false) ∨ (e = 0 ∧ decide ((s.size : Int) < (n : Int)) = true ∧ s.size < n) ∨ (e = 0 ∧ decide ((s.size : Int) < (n : Int)) = false ∧ ¬ s.size < n) := by
    by_cases h1 : e = 0
    · by_cases h2 : s.size < n
      · exact .inr (.inl ⟨h1, decide_eq_true (by omega), h2⟩)
      · exact .inr (.inr ⟨h1, decide_eq_false (by omega), h2⟩)
    · exact .inl ⟨h1, by rw [beq_eq_false_iff_ne]; omega, decide_eq_false (by omega)⟩
  rcases cases3 with ⟨h1, k1, k2⟩ | ⟨rfl, k1, k2⟩ | ⟨rfl, k1, k2⟩
  · simp only [if_pos h1]
    have hG : signE s p e 58 = e := sign_sticky _ _ _ _ h1
    have D3 := Lib.hid (fun w => csign_any s p j e 58 w hp hz (by omega))
    rw [hG] at D3
    simp only [hG, if_pos h1]
    clear hG
    generalize signA s p e 58 = A at *
    unfold cv at D2 D3 ⊢
    go_enter Tryd.func22, Tryd.ntmps22
    go_wp2_with fail
    refine (D2.out _).mono ?_
    rintro e w1 ⟨rfl, aa0, bb0, rfl⟩
    clear D2
    go_wp2_with fail
    refine (D3.out _).mono ?_
    rintro e w1 ⟨rfl, aa1, bb1, rfl⟩
    clear D3
    go_wp2_with fail
    refine bodyPost_ret (v := .tuple #[cv s A j e, .string ⟨#[]⟩]) ?_ rfl ⟨⟨_, rfl⟩, six_below _ _ _ _ _ _ _ _⟩
    simp [results, Tryd.results22, go_sem, cv]
  · have h0 : ¬ ((0 : Nat) ≠ 0) := by omega
    simp only [if_neg h0, if_pos k2]
    have hG : signE s p 12 58 = 12 := sign_sticky _ _ _ _ (by omega)
    have D3 := Lib.hid (fun w => csign_any s p j 12 58 w hp hz (by omega))
    rw [hG] at D3
    have h12 : (12 : Nat) ≠ 0 := by omega
    simp only [hG, if_pos h12]
    clear hG h12 h0
    generalize signA s p 12 58 = A at *
    unfold cv at D2 D3 ⊢
    go_enter Tryd.func22, Tryd.ntmps22
    go_wp2_with fail
    refine (D2.out _).mono ?_
    rintro e w1 ⟨rfl, aa0, bb0, rfl⟩
    clear D2
    go_wp2_with fail
    refine (D3.out _).mono ?_
    rintro e w1 ⟨rfl, aa1, bb1, rfl⟩
    clear D3
    go_wp2_with fail
    refine bodyPost_ret (v := .tuple #[cv s A j 12, .string ⟨#[]⟩]) ?_ rfl ⟨⟨_, rfl⟩, six_below _ _ _ _ _ _ _ _⟩
    simp [results, Tryd.results22, go_sem, cv]
  · have h0 : ¬ ((0 : Nat) ≠ 0) := by omega
    simp only [if_neg h0, if_neg k2]
    have D3 := Lib.hid (fun w => csign_any s p j 0 58 w hp hz (by omega))
    have hA := signA_le s p 0 58 hp
    by_cases hG : signE s p 0 58 = 0
    · rw [hG] at D3
      simp only [hG, if_neg h0]
      clear hG h0
      generalize signA s p 0 58 = A at *
      have y1 : IntKind.u64.wrap ((s.size : Int) - (A : Int)) = ((s.size - A : Nat) : Int) := by rw [IntWalk.u64_in _ (by omega)]; omega
      by_cases h2 : s.size - A < n
      · rw [if_pos h2]
        have y2 : decide (((s.size - A : Nat) : Int) < (n : Int)) = true := decide_eq_true (by omega)
        have y3 : decide (s.size - A < n) = true := decide_eq_true h2
        unfold cv at D2 D3 ⊢
        go_enter Tryd.func22, Tryd.ntmps22
        go_wp2_with fail
        refine (D2.out _).mono ?_
        rintro e w1 ⟨rfl, aa0, bb0, rfl⟩
        clear D2
        go_wp2_with fail
        refine (D3.out _).mono ?_
        rintro e w1 ⟨rfl, aa1, bb1, rfl⟩
        clear D3
        go_wp2_with fail
        refine bodyPost_ret (v := .tuple #[cv s A j 2, .string ⟨#[]⟩]) ?_ rfl ⟨⟨_, rfl⟩, six_below _ _ _ _ _ _ _ _⟩
        simp [results, Tryd.results22, go_sem, cv]
      · rw [if_neg h2]
        have y2 : decide (((s.size - A : Nat) : Int) < (n : Int)) = false := decide_eq_false (by omega)
        have y3 : decide (s.size - A < n) = false := decide_eq_false h2
        have z1 : (A : Int) ≤ (A : Int) + (n : Int) := by omega
        have z2 : (A : Int) + (n : Int) ≤ (s.size : Int) := by omega
        have z3 : (0 : Int) ≤ (A : Int) := by omega
        unfold cv at D2 D3 ⊢
        go_enter Tryd.func22, Tryd.ntmps22
        go_wp2_with fail
        refine (D2.out _).mono ?_
        rintro e w1 ⟨rfl, aa0, bb0, rfl⟩
        clear D2
        go_wp2_with fail
        refine (D3.out _).mono ?_
        rintro e w1 ⟨rfl, aa1, bb1, rfl⟩
        clear D3
        go_wp2_with fail
        refine bodyPost_ret (v := .tuple #[cv s (A + n) j 0, .string (s.extract A (A + n))]) ?_ rfl ⟨⟨_, rfl⟩, six_below _ _ _ _ _ _ _ _⟩
        simp [results, Tryd.results22, go_sem, cv]
    · have g1 : ((signE s p 0 58 : Nat) : Int) ≠ 0 := by omega
      have hG2 : signE s p 0 58 ≠ 0 := hG
      simp only [if_pos hG2]
      generalize signE s p 0 58 = G at *
      have g2 : ((G : Int) == 0) = false := by rw [beq_eq_false_iff_ne]; exact g1
      have g3 : decide ((G : Int) = 0) = false := decide_eq_false g1
      clear hG g1 hG2 h0
      generalize signA s p 0 58 = A at *
      unfold cv at D2 D3 ⊢
      go_enter Tryd.func22, Tryd.ntmps22
      go_wp2_with fail
      refine (D2.out _).mono ?_
      rintro e w1 ⟨rfl, aa0, bb0, rfl⟩
      clear D2
      go_wp2_with fail
      refine (D3.out _).mono ?_
      rintro e w1 ⟨rfl, aa1, bb1, rfl⟩
      clear D3
      go_wp2_with fail
      refine bodyPost_ret (v := .tuple #[cv s A j G, .string ⟨#[]⟩]) ?_ rfl ⟨⟨_, rfl⟩, six_below _ _ _ _ _ _ _ _⟩
      simp [results, Tryd.results22, go_sem, cv]
theorem four_below (w : World) (a b c d : Array Value) : Below w.heap.size w (four w a b c d) :=
  ((((Below.refl _ w).alloc (Nat.le_refl _) _).alloc (by simp) _).alloc (by simp; omega) _).alloc (by simp; omega) _
set_option maxHeartbeats 2000000 in
theorem crclose_any (s : ByteArray) (i j k : Nat) (w : World) (hi : i ≤ s.size) (hj : j ≤ 60) (hz : s.size ≤ 100000) :
    Calls Tryd.prog 25 #[cv s i j k] w fun e w' => e = .returned (cv s (clA s i j k) (clJ s i j k) (clE s i j k)) ∧ Below w.heap.size w w' := by
  have D := Lib.hid (fun w => csign_any s i j (clK j k) 41 w hi hz (by omega))
  have e1 : clA s i j k = signA s i (clK j k) 41 := rfl
  have e2 : clE s i j k = signE s i (clK j k) 41 := rfl
  have e3 : clJ s i j k = if signE s i (clK j k) 41 ≠ 0 then j else j - 1 := rfl
  rw [e1, e2, e3]
  clear e1 e2 e3
  by_cases hk : k = 0
  · subst hk
    by_cases h0 : j = 0
    · subst h0
      have hK : clK 0 0 = 3 := rfl
      have hG : signE s i 3 41 = 3 := sign_sticky _ _ _ _ (by omega)
      rw [hK] at D ⊢
      rw [hG] at D ⊢
      rw [if_pos (by omega)]
      clear hK hG
      generalize signA s i 3 41 = A at *
      unfold cv at D ⊢
      go_enter Tryd.func25, Tryd.ntmps25
      go_wp2_with fail
      refine (D.out _).mono ?_
      rintro e w1 ⟨rfl, aa, bb, rfl⟩
      clear D
      go_wp2_with fail
      refine bodyPost_ret (v := cv s A 0 3) ?_ rfl ⟨by simp [cv], four_below _ _ _ _ _⟩
      simp [results, Tryd.results25, go_sem, cv]
    · have hK : clK j 0 = 0 := by unfold clK; rw [if_neg (by omega), if_neg h0]
      rw [hK] at D ⊢
      clear hK
      have j1 : ((j : Int) == 0) = false := by rw [beq_eq_false_iff_ne]; omega
      have j2 : decide ((j : Int) = 0) = false := decide_eq_false (by omega)
      by_cases hG : signE s i 0 41 = 0
      · rw [hG] at D ⊢
        rw [if_neg (by omega)]
        clear hG
        generalize signA s i 0 41 = A at *
        have jj : (j : Int) - 1 = ((j - 1 : Nat) : Int) := by omega
        unfold cv at D ⊢
        go_enter Tryd.func25, Tryd.ntmps25
        go_wp2_with fail
        refine (D.out _).mono ?_
        rintro e w1 ⟨rfl, aa, bb, rfl⟩
        clear D
        go_wp2_with fail
        refine bodyPost_ret (v := cv s A (j - 1) 0) ?_ rfl ⟨by simp [cv], four_below _ _ _ _ _⟩
        simp [results, Tryd.results25, go_sem, cv]
      · have g1 : ((signE s i 0 41 : Nat) : Int) ≠ 0 := by omega
        have hG2 : signE s i 0 41 ≠ 0 := hG
        rw [if_pos hG2]
        generalize signE s i 0 41 = G at *
        have g2 : ((G : Int) == 0) = false := by rw [beq_eq_false_iff_ne]; exact g1
        have g3 : decide ((G : Int) = 0) = false := decide_eq_false g1
        clear hG g1 hG2
        generalize signA s i 0 41 = A at *
        unfold cv at D ⊢
        go_enter Tryd.func25, Tryd.ntmps25
        go_wp2_with fail
        refine (D.out _).mono ?_
        rintro e w1 ⟨rfl, aa, bb, rfl⟩
        clear D
        go_wp2_with fail
        refine bodyPost_ret (v := cv s A j G) ?_ rfl ⟨by simp [cv], four_below _ _ _ _ _⟩
        simp [results, Tryd.results25, go_sem, cv]
  · have hK : clK j k = k := by unfold clK; rw [if_pos hk]
    rw [hK] at D ⊢
    have hG : signE s i k 41 = k := sign_sticky _ _ _ _ hk
    rw [hG] at D ⊢
    rw [if_pos hk]
    clear hK hG
    generalize signA s i k 41 = A at *
    have k1 : ((k : Int) == 0) = false := by rw [beq_eq_false_iff_ne]; omega
    have k2 : decide ((k : Int) = 0) = false := decide_eq_false (by omega)
    unfold cv at D ⊢
    go_enter Tryd.func25, Tryd.ntmps25
    go_wp2_with fail
    refine (D.out _).mono ?_
    rintro e w1 ⟨rfl, aa, bb, rfl⟩
    clear D
    go_wp2_with fail
    refine bodyPost_ret (v := cv s A j k) ?_ rfl ⟨by simp [cv], four_below _ _ _ _ _⟩
    simp [results, Tryd.results25, go_sem, cv]
end Go.Proofs.YtbebkchfmebcmaaDoor
