/-
  CONTRACTS of the reference's Cursor (scriberef01): Sign, More, ReadOpen, ReadClose.
-/
import Derived.Test.YtbebkchfmebcmaaDoorSkip
namespace Go.Proofs.YtbebkchfmebcmaaDoor
open Go.RowKit

/-- A Cursor. -/
def cv (s : ByteArray) (i j k : Nat) : Value := .agg #[.string s, .int .i64 i, .int .i64 j, .int .i64 k]
theorem two_cells (w : World) (a b : Array Value) (t : TypeId) : Below w.heap.size w ((w.alloc (.cells a t)).alloc (.cells b t)) := ((Below.refl _ _).alloc (Nat.le_refl _) _).alloc (by simp) _
theorem one_cell (w : World) (a : Array Value) (t : TypeId) : Below w.heap.size w (w.alloc (.cells a t)) := (Below.refl _ _).alloc (Nat.le_refl _) _
set_option maxHeartbeats 1000000 in
theorem csign_any (s : ByteArray) (i j k c : Nat) (w : World) (hi : i ≤ s.size) (hz : s.size ≤ 100000) (_hc : c < 256) :
    Calls Tryd.prog 35 #[cv s i j k, .int .u8 c] w fun e w' => e = .returned (cv s (signA s i k c) j (signE s i k c)) ∧ ∃ a b, w' = (w.alloc (.cells a 25)).alloc (.cells b 25) := by
  unfold cv
  by_cases hk : k = 0
  · subst hk
    by_cases hl : i < s.size
    · have hl2 : decide ((s.size : Int) ≤ (i : Int)) = false := by simp; omega
      by_cases hs : stB s i c = true
      · have ha : signA s i 0 c = i + 1 := by unfold signA; simp [hs]
        have he : signE s i 0 c = 0 := by unfold signE; simp [hs]
        have hx : s[i].toNat = c := by unfold stB at hs; rw [dif_pos hl] at hs; simpa using hs
        rw [ha, he]
        clear ha he hs
        go_enter Tryd.func35, Tryd.ntmps35
        go_wp2_with fail
        refine bodyPost_ret (v := cv s (i + 1) j (0)) ?_ rfl ⟨rfl, _, _, rfl⟩
        simp [results, Tryd.results35, go_sem, cv]
      · have ha : signA s i 0 c = i := by unfold signA; simp [hs]
        have he : signE s i 0 c = 3 := by unfold signE refE; rw [if_neg (by omega), if_neg hs, if_neg (by omega)]
        have hx : ((s[i].toNat : Int) == (c : Int)) = false := by unfold stB at hs; rw [dif_pos hl] at hs; rw [beq_eq_false_iff_ne]; intro h; exact hs (by simp; omega)
        have hx2 : decide ((s[i].toNat : Int) = (c : Int)) = false := by simpa using hx
        rw [ha, he]
        clear ha he hs
        go_enter Tryd.func35, Tryd.ntmps35
        go_wp2_with fail
        refine bodyPost_ret (v := cv s (i) j (3)) ?_ rfl ⟨rfl, _, _, rfl⟩
        simp [results, Tryd.results35, go_sem, cv]
    · obtain rfl : i = s.size := by omega
      have hs : stB s s.size c = false := by unfold stB; rw [dif_neg (by omega)]
      have ha : signA s s.size 0 c = s.size := by unfold signA; simp [hs]
      have he : signE s s.size 0 c = 2 := by unfold signE refE; simp [hs]
      rw [ha, he]
      clear ha he hs hl
      go_enter Tryd.func35, Tryd.ntmps35
      go_wp2_with fail
      refine bodyPost_ret (v := cv s (s.size) j (2)) ?_ rfl ⟨rfl, _, _, rfl⟩
      simp [results, Tryd.results35, go_sem, cv]
  · have ha : signA s i k c = i := by unfold signA; rw [if_pos hk]
    have he : signE s i k c = k := by unfold signE; rw [if_pos hk]
    rw [ha, he]
    clear ha he
    have k1 : ((k : Int) == 0) = false := by rw [beq_eq_false_iff_ne]; omega
    have k2 : decide ((k : Int) = 0) = false := decide_eq_false (by omega)
    have k3 : ((k : Int) != 0) = true := by rw [bne_iff_ne]; omega
    go_enter Tryd.func35, Tryd.ntmps35
    go_wp2_with fail
    refine bodyPost_ret (v := cv s (i) j (k)) ?_ rfl ⟨rfl, _, _, rfl⟩
    simp [results, Tryd.results35, go_sem, cv]
set_option maxHeartbeats 1000000 in
theorem cmore_any (s : ByteArray) (i j k : Nat) (w : World) (_hi : i ≤ s.size) (_hz : s.size ≤ 100000) :
    Calls Tryd.prog 24 #[cv s i j k] w fun e w' => e = .returned (.bool (moreB s i k)) ∧ Below w.heap.size w w' := by
  unfold cv
  by_cases hk : k = 0
  · subst hk
    by_cases hl : i < s.size
    · have hl2 : decide ((i : Int) < (s.size : Int)) = true := by simp; omega
      have hx : moreB s i 0 = (((s[i].toNat : Nat) : Int) != 41) := by
        unfold moreB stB
        rw [dif_pos hl, Bool.eq_iff_iff]
        simp [hl]
        omega
      rw [hx]
      go_enter Tryd.func24, Tryd.ntmps24
      go_wp2_with fail
      try go_quiet (fail)
      try go_wp2_with fail
      go_ret
      first
        | exact ⟨by simp, one_cell _ _ _⟩
        | exact ⟨by simp, (one_cell _ _ _).drewN⟩
    · have hl2 : decide ((i : Int) < (s.size : Int)) = false := by simp; omega
      have hx : moreB s i 0 = false := by unfold moreB; simp [hl]
      rw [hx]
      go_enter Tryd.func24, Tryd.ntmps24
      go_wp2_with fail
      try go_quiet (fail)
      try go_wp2_with fail
      go_ret
      first
        | exact ⟨by simp, one_cell _ _ _⟩
        | exact ⟨by simp, (one_cell _ _ _).drewN⟩
  · have hx : moreB s i k = false := by unfold moreB; simp [hk]
    have k1 : ((k : Int) == 0) = false := by rw [beq_eq_false_iff_ne]; omega
    have k2 : decide ((k : Int) = 0) = false := decide_eq_false (by omega)
    rw [hx]
    go_enter Tryd.func24, Tryd.ntmps24
    go_wp2_with fail
    try go_quiet (fail)
    try go_wp2_with fail
    go_ret
    first
      | exact ⟨by simp, one_cell _ _ _⟩
      | exact ⟨by simp, (one_cell _ _ _).drewN⟩
/-- Four Cursors more. -/
def four (w : World) (a b c d : Array Value) : World := (((w.alloc (.cells a 25)).alloc (.cells b 25)).alloc (.cells c 25)).alloc (.cells d 25)
set_option maxHeartbeats 1000000 in
theorem copen_any (s : ByteArray) (i j k : Nat) (w : World) (hi : i ≤ s.size) (hj : j ≤ 60) (hz : s.size ≤ 100000) :
    Calls Tryd.prog 23 #[cv s i j k] w fun e w' => e = .returned (cv s (opA s i j k) (opJ s i j k) (opE s i j k)) ∧ ∃ a b c d, w' = four w a b c d := by
  have D := Lib.hid (fun w => csign_any s i j (opK j k) 40 w hi hz (by omega))
  have e1 : opA s i j k = signA s i (opK j k) 40 := rfl
  have e2 : opE s i j k = signE s i (opK j k) 40 := rfl
  have e3 : opJ s i j k = if signE s i (opK j k) 40 ≠ 0 then j else j + 1 := rfl
  rw [e1, e2, e3]
  clear e1 e2 e3
  have hK : (k ≠ 0 ∧ opK j k = k) ∨ (k = 0 ∧ j = 60 ∧ opK j k = 14) ∨ (k = 0 ∧ j < 60 ∧ opK j k = 0) := by
    unfold opK
    by_cases h : k = 0
    · by_cases h2 : j = 60
      · exact Or.inr (Or.inl ⟨h, h2, by simp [h, h2]⟩)
      · exact Or.inr (Or.inr ⟨h, by omega, by simp [h, h2]⟩)
    · exact Or.inl ⟨h, by simp [h]⟩
  generalize opK j k = K at *
  generalize signA s i K 40 = A at *
  generalize signE s i K 40 = E at *
  unfold cv at D ⊢
  unfold four
  have facts : (k ≠ 0 ∧ ((k : Int) == 0) = false ∧ decide ((k : Int) = 0) = false ∧ K = k) ∨ (k = 0 ∧ decide ((59 : Int) < (j : Int)) = true ∧ 59 < j ∧ K = 14) ∨ (k = 0 ∧ decide ((59 : Int) < (j : Int)) = false ∧ j < 60 ∧ K = 0) := by
    rcases hK with ⟨h1, h2⟩ | ⟨h1, h2, h3⟩ | ⟨h1, h2, h3⟩
    · exact Or.inl ⟨h1, by rw [beq_eq_false_iff_ne]; omega, decide_eq_false (by omega), h2⟩
    · exact Or.inr (Or.inl ⟨h1, decide_eq_true (by omega), by omega, h3⟩)
    · exact Or.inr (Or.inr ⟨h1, decide_eq_false (by omega), h2, h3⟩)
  clear hK
  by_cases hE : E = 0
  · subst hE
    rcases facts with ⟨h1, k1, k2, rfl⟩ | ⟨rfl, h1, h2, rfl⟩ | ⟨rfl, h1, h2, rfl⟩
    all_goals
      go_enter Tryd.func23, Tryd.ntmps23
      go_wp2_with fail
      refine (D.out _).mono ?_
      rintro e w1 ⟨rfl, aa, bb, rfl⟩
      go_wp2_with fail
      refine bodyPost_ret (v := cv s A (j + 1) 0) ?_ rfl ⟨by simp [cv], _, _, _, _, rfl⟩
      simp [results, Tryd.results23, go_sem, cv]
  · have q1 : ((E : Int) == 0) = false := by rw [beq_eq_false_iff_ne]; omega
    have q2 : decide ((E : Int) = 0) = false := decide_eq_false (by omega)
    rcases facts with ⟨h1, k1, k2, rfl⟩ | ⟨rfl, h1, h2, rfl⟩ | ⟨rfl, h1, h2, rfl⟩
    all_goals
      go_enter Tryd.func23, Tryd.ntmps23
      go_wp2_with fail
      refine (D.out _).mono ?_
      rintro e w1 ⟨rfl, aa, bb, rfl⟩
      go_wp2_with fail
      refine bodyPost_ret (v := cv s A j E) ?_ rfl ⟨by simp [cv], _, _, _, _, rfl⟩
      simp [results, Tryd.results23, go_sem, cv]
end Go.Proofs.YtbebkchfmebcmaaDoor
