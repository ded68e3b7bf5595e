/-
  CONTRACT of the Reader's Skip, by induction on how deep it may go: what it does is a function of the bytes and the state.
-/
import Derived.Test.YtjlkdglbnfifeaaGreatDoorRdList
import Derived.Test.YtjlkdglbnfifeaaGreatDoorOneW
import Derived.Deep.LoopGhost
namespace Go.Proofs.YtjlkdglbnfifeaaGreatDoor.Pk
open Go.RowKit

/-- The state of a Reader: the place, how many lists are open, the error. -/
abbrev RS := Nat × Nat × Nat
/-- Skip (loop false), and the rest of a list behind its Open (loop true): at most f steps deep. -/
def skP (s : ByteArray) : Nat → Bool → RS → RS
  | 0, _, r => r
  | f + 1, false, r =>
    if stB s r.1 105 = true then ((intP s r.1 r.2.2).1, r.2.1, (intP s r.1 r.2.2).2.1)
    else if stB s r.1 40 = true then skP s f true (opA s r.1 r.2.1 r.2.2, opJ s r.1 r.2.1 r.2.2, opE s r.1 r.2.1 r.2.2)
    else ((txP s r.1 r.2.2 s.size).1, r.2.1, (txP s r.1 r.2.2 s.size).2.1)
  | f + 1, true, r =>
    if moreB s r.1 r.2.2 = true then skP s f true (skP s f false r) else (clA s r.1 r.2.1 r.2.2, clJ s r.1 r.2.1 r.2.2, clE s r.1 r.2.1 r.2.2)
/-- How deep suffices, for Skip and for the rest of a list. -/
def needS (s : ByteArray) (i k : Nat) : Nat := if k ≠ 0 then 2 else 2 * (s.size - i) + 2
def needL (s : ByteArray) (i k : Nat) : Nat := if k ≠ 0 then 1 else 2 * (s.size - i) + 3

theorem signA_ge (s : ByteArray) (i k c : Nat) : i ≤ signA s i k c := by
  unfold signA; split
  · omega
  · split <;> omega
theorem sign_sticky (s : ByteArray) (i k c : Nat) (hk : k ≠ 0) : signE s i k c = k := by unfold signE; rw [if_pos hk]
theorem digP_ge (s : ByteArray) (first most : Nat) : ∀ f i n, i ≤ (digP s first most f i n).1 := by
  intro f
  induction f with
  | zero => intro i n; exact Nat.le_refl _
  | succ f ih =>
    intro i n
    rw [digP]
    split
    · split
      · exact Nat.le_refl _
      · exact Nat.le_trans (Nat.le_succ i) (ih _ _)
    · split
      · exact Nat.le_refl _
      · split <;> exact Nat.le_refl _
theorem dig_ge (s : ByteArray) (i k most : Nat) : i ≤ (dig s i k most).1 := by
  unfold dig; split
  · exact Nat.le_refl _
  · exact digP_ge _ _ _ _ _ _
theorem dig_sticky (s : ByteArray) (i k most : Nat) (hk : k ≠ 0) : (dig s i k most).2.1 = k := by unfold dig; rw [if_pos hk]
theorem numP_ge (s : ByteArray) (i k : Nat) : i ≤ (numP s i k).1 := by
  unfold numP; split
  · exact Nat.le_refl _
  · split
    · split
      · exact Nat.le_succ i
      · exact Nat.le_trans (Nat.le_succ i) (dig_ge _ _ _ _)
    · exact dig_ge _ _ _ _
theorem numP_sticky (s : ByteArray) (i k : Nat) (hk : k ≠ 0) : (numP s i k).2.1 = k := by unfold numP; rw [if_pos hk]
theorem intP_ge (s : ByteArray) (i k : Nat) : signA s i k 105 ≤ (intP s i k).1 := Nat.le_trans (numP_ge s _ _) (signA_ge _ _ _ _)
theorem intP_sticky (s : ByteArray) (i k : Nat) (hk : k ≠ 0) : (intP s i k).2.1 = k := by
  show signE s (numP s (signA s i k 105) (signE s i k 105)).1 (numP s (signA s i k 105) (signE s i k 105)).2.1 59 = k
  have e1 := sign_sticky s i k 105 hk
  rw [e1, numP_sticky s _ k hk, sign_sticky s _ k 59 hk]
theorem txA2_ge (s : ByteArray) (i k most : Nat) : (dig s i k maxInt).1 ≤ txA2 s (dig s i k maxInt) most := signA_ge _ _ _ _
theorem txP_ge (s : ByteArray) (i k most : Nat) : (dig s i k maxInt).1 ≤ (txP s i k most).1 := by
  have := txA2_ge s i k most
  unfold txP
  split
  · exact this
  · simp only; omega
theorem txP_err (s : ByteArray) (i k most : Nat) (h : (txP s i k most).2.1 = 0) : (dig s i k maxInt).2.1 = 0 := by
  unfold txP at h
  by_cases h3 : txE3 s (dig s i k maxInt) most ≠ 0
  · rw [if_pos h3] at h; exact absurd h h3
  · have hE3 : txE3 s (dig s i k maxInt) most = 0 := by omega
    unfold txE3 at hE3
    by_cases h4 : txE2 s (dig s i k maxInt) most ≠ 0
    · rw [if_pos h4] at hE3; exact absurd hE3 h4
    · have h5 := sign_k (show signE s (dig s i k maxInt).1 (txE1 (dig s i k maxInt) most) 58 = 0 from by unfold txE2 at h4; omega)
      unfold txE1 at h5
      by_cases h6 : (dig s i k maxInt).2.1 ≠ 0
      · rw [if_pos h6] at h5; exact absurd h5 h6
      · omega
theorem txP_sticky (s : ByteArray) (i k most : Nat) (hk : k ≠ 0) : (txP s i k most).2.1 ≠ 0 := fun h => by
  have := txP_err s i k most h
  rw [dig_sticky s i k _ hk] at this
  exact hk this
theorem op_sticky (s : ByteArray) (i j k : Nat) (hk : k ≠ 0) : opE s i j k ≠ 0 := by
  have : opK j k = k := by unfold opK; rw [if_pos hk]
  unfold opE; rw [this, sign_sticky s i k 40 hk]; exact hk
theorem cl_sticky (s : ByteArray) (i j k : Nat) (hk : k ≠ 0) : clE s i j k ≠ 0 := by
  have : clK j k = k := by unfold clK; rw [if_pos hk]
  unfold clE; rw [this, sign_sticky s i k 41 hk]; exact hk
theorem more_k {s : ByteArray} {i k : Nat} (h : moreB s i k = true) : k = 0 ∧ i < s.size := by
  unfold moreB at h
  simp only [Bool.and_eq_true, beq_iff_eq, decide_eq_true_eq] at h
  exact ⟨h.1.1, h.1.2⟩
theorem more_false {s : ByteArray} {i k : Nat} (hk : k ≠ 0) : moreB s i k = false := by unfold moreB; simp [hk]

/-- The place stays within the bytes and never goes back, the lists within 60, an error stays one. -/
theorem skP_keeps (s : ByteArray) : ∀ f m (r : RS), r.1 ≤ s.size → r.2.1 ≤ 60 → (skP s f m r).1 ≤ s.size ∧ (skP s f m r).2.1 ≤ 60 ∧ r.1 ≤ (skP s f m r).1 ∧ (r.2.2 ≠ 0 → (skP s f m r).2.2 ≠ 0) := by
  intro f
  induction f with
  | zero => intro m r h1 h2; exact ⟨h1, h2, Nat.le_refl _, fun h => h⟩
  | succ f ih =>
    intro m r h1 h2
    cases m with
    | false =>
      rw [skP]
      by_cases ha : stB s r.1 105 = true
      · rw [if_pos ha]
        exact ⟨intP_le s _ _ h1, h2, Nat.le_trans (signA_ge s _ _ _) (intP_ge s _ _), fun h => by simp only; rw [intP_sticky s _ _ h]; exact h⟩
      · rw [if_neg ha]
        by_cases hb : stB s r.1 40 = true
        · rw [if_pos hb]
          obtain ⟨q1, q2, q3, q4⟩ := ih true (opA s r.1 r.2.1 r.2.2, opJ s r.1 r.2.1 r.2.2, opE s r.1 r.2.1 r.2.2) (opA_le _ _ _ _ h1) (opJ_le _ _ _ _ h2)
          exact ⟨q1, q2, Nat.le_trans (signA_ge s _ _ _) q3, fun h => q4 (op_sticky s _ _ _ h)⟩
        · rw [if_neg hb]
          exact ⟨txP_le s _ _ _ h1, h2, Nat.le_trans (dig_ge s _ _ _) (txP_ge s _ _ _), fun h => txP_sticky s _ _ _ h⟩
    | true =>
      rw [skP]
      by_cases ha : moreB s r.1 r.2.2 = true
      · rw [if_pos ha]
        obtain ⟨p1, p2, p3, p4⟩ := ih false r h1 h2
        obtain ⟨q1, q2, q3, q4⟩ := ih true (skP s f false r) p1 p2
        exact ⟨q1, q2, Nat.le_trans p3 q3, fun h => q4 (p4 h)⟩
      · rw [if_neg ha]
        exact ⟨clA_le _ _ _ _ h1, clJ_le _ _ _ _ h2, signA_ge s _ _ _, fun h => cl_sticky s _ _ _ h⟩
/-- A Skip with bytes ahead of it errs, or takes some. -/
theorem skP_moves (s : ByteArray) (f i j : Nat) (hi : i < s.size) (hj : j ≤ 60) : (skP s (f + 1) false (i, j, 0)).2.2 ≠ 0 ∨ i < (skP s (f + 1) false (i, j, 0)).1 := by
  rw [skP]
  by_cases ha : stB s i 105 = true
  · rw [if_pos ha]
    right
    have := intP_ge s i 0
    have e : signA s i 0 105 = i + 1 := by unfold signA; rw [if_neg (by omega), if_pos ha]
    simp only
    omega
  · rw [if_neg ha]
    by_cases hb : stB s i 40 = true
    · rw [if_pos hb]
      obtain ⟨q1, q2, q3, q4⟩ := skP_keeps s f true (opA s i j 0, opJ s i j 0, opE s i j 0) (opA_le _ _ _ _ (by omega)) (opJ_le _ _ _ _ hj)
      by_cases hE : opE s i j 0 ≠ 0
      · exact Or.inl (q4 hE)
      · right
        have h3 := sign_ok (show signE s i (opK j 0) 40 = 0 from by unfold opE at hE; omega)
        have h4 : opA s i j 0 = i + 1 := h3.2.2
        simp only at q3
        simp only
        omega
    · rw [if_neg hb]
      by_cases hE : (txP s i 0 s.size).2.1 ≠ 0
      · exact Or.inl hE
      · right
        have h3 := txP_err s i 0 s.size (by omega)
        have hd : dig s i 0 maxInt = ((dig s i 0 maxInt).1, 0, (dig s i 0 maxInt).2.2) := Prod.ext rfl (Prod.ext h3 rfl)
        have h4 := (dig_spell s i maxInt _ _ hd).1
        have := txP_ge s i 0 s.size
        simp only
        omega

set_option maxHeartbeats 2000000 in
theorem skip_all (s : ByteArray) (hs1 : s.size ≤ 100000) : ∀ f g, g ≤ f → ∀ (b i j k : Nat) (w : World), Rd w b s i j k → i ≤ s.size → j ≤ 60 → needS s i k ≤ g →
    Calls Tryz.prog 32 #[.pointer (some ⟨b, 0, none⟩)] w fun e w' => e = .returned (.tuple #[]) ∧ RdPost b s (skP s g false (i, j, k)).1 (skP s g false (i, j, k)).2.1 (skP s g false (i, j, k)).2.2 w w' := by
  have hsm : s.size ≤ maxLen := by unfold maxLen; omega
  intro f
  induction f with
  | zero =>
    intro g hg b i j k w h hi hj hn
    unfold needS at hn
    split at hn <;> omega
  | succ f ih =>
    intro g0 hg b i j k w h hi hj hn
    obtain ⟨g, rfl⟩ : ∃ g, g0 = g + 1 := ⟨g0 - 1, by unfold needS at hn; split at hn <;> omega⟩
    have IH := Lib.hid ih
    clear ih
    by_cases ha : stB s i 105 = true
    · have e0 : skP s (g + 1) false (i, j, k) = ((intP s i k).1, j, (intP s i k).2.1) := by rw [skP, if_pos ha]
      rw [e0]
      have D := Lib.hid (fun w h => int_any b s i j k w h hi hsm)
      have S1 := Lib.hid ha
      clear ha e0 hn
      generalize intP s i k = N at *
      go_enter Tryz.func32, Tryz.ntmps32
      go_wp2_with fail
      refine (stands_any b s i j k 105 _ h hi hsm).mono ?_
      rintro e w1 ⟨rfl, n1, rfl⟩
      rw [S1.out]
      go_wp2_with fail
      refine (D.out _ h.drewN).mono ?_
      rintro e w2 ⟨rfl, hr, o2⟩
      go_wp2_with fail
      go_end0
      exact ⟨rfl, hr, (Only.refl _ _).drewN.trans o2⟩
    · have ha2 : stB s i 105 = false := by simpa using ha
      have S1 := Lib.hid ha2
      by_cases hb : stB s i 40 = true
      · obtain ⟨R, hR⟩ : ∃ R, R = skP s (g + 1) false (i, j, k) := ⟨_, rfl⟩
        rw [← hR]
        rw [skP, if_neg ha, if_pos hb] at hR
        have D := Lib.hid (fun w h => ropen_any b s i j k w h hi hj hsm)
        have hA := opA_le s i j k hi
        have hJ := opJ_le s i j k hj
        have hneed : needL s (opA s i j k) (opE s i j k) ≤ g := by
          unfold needL needS at *
          by_cases hE : opE s i j k ≠ 0
          · rw [if_pos hE]; split at hn <;> omega
          · rw [if_neg hE]
            have h3 := sign_ok (show signE s i (opK j k) 40 = 0 from by unfold opE at hE; omega)
            have h4 : opA s i j k = i + 1 := h3.2.2
            have h5 : k = 0 := by
              have := h3.1
              unfold opK at this
              by_cases hk : k ≠ 0
              · rw [if_pos hk] at this; omega
              · omega
            have h6 := stB_lt hb
            rw [if_neg (by omega)] at hn
            omega
        have S2 := Lib.hid hb
        have HR := Lib.hid hR
        clear ha ha2 hb hn hR
        generalize opA s i j k = i1 at *
        generalize opJ s i j k = j1 at *
        generalize opE s i j k = k1 at *
        go_enter Tryz.func32, Tryz.ntmps32
        go_wp2_with fail
        refine (stands_any b s i j k 105 _ h hi hsm).mono ?_
        rintro e w1 ⟨rfl, n1, rfl⟩
        rw [S1.out]
        go_wp2_with fail
        refine (stands_any b s i j k 40 _ h.drewN hi hsm).mono ?_
        rintro e w2 ⟨rfl, n2, rfl⟩
        rw [S2.out]
        go_wp2_with fail
        refine (D.out _ h.drewN).mono ?_
        rintro e w3 ⟨rfl, hr3, o3⟩
        have hO : Only b w w3 := (Only.refl _ _).drewN.trans o3
        clear o3
        go_wp2_with fail
        go_loopg [] g (fun gk wr => ∃ i j k : Nat, gk ≤ g ∧ Rd wr b s i j k ∧ i ≤ s.size ∧ j ≤ 60 ∧ needL s i k ≤ gk ∧ Only b w wr ∧ Hid (R = skP s gk true (i, j, k)))
        case atStart => exact ⟨i1, j1, k1, Nat.le_refl _, hr3, hA, hJ, hneed, hO, HR⟩
        case round =>
          obtain ⟨i2, j2, k2, hgk, hr2, hi2, hj2, hn2, hO2, HQ⟩ := hrel
          obtain ⟨q, rfl⟩ : ∃ q, gk = q + 1 := ⟨gk - 1, by unfold needL at hn2; split at hn2 <;> omega⟩
          by_cases hm : moreB s i2 k2 = true
          · obtain ⟨rfl, hlt⟩ := more_k hm
            have hq : needS s i2 0 ≤ q := by unfold needL at hn2; unfold needS; rw [if_neg (by omega)] at hn2 ⊢; omega
            have hQ := HQ.out
            rw [skP, if_pos hm] at hQ
            have HQ2 := Lib.hid hQ
            have M := Lib.hid hm
            have hkeep := skP_keeps s q false (i2, j2, 0) hi2 hj2
            have hmove : (skP s q false (i2, j2, 0)).2.2 ≠ 0 ∨ i2 < (skP s q false (i2, j2, 0)).1 := by
              obtain ⟨q', rfl⟩ : ∃ q', q = q' + 1 := ⟨q - 1, by unfold needS at hq; rw [if_neg (by omega)] at hq; omega⟩
              exact skP_moves s q' i2 j2 hlt hj2
            have hnew : needL s (skP s q false (i2, j2, 0)).1 (skP s q false (i2, j2, 0)).2.2 ≤ q := by
              unfold needL at hn2 ⊢
              rw [if_neg (by omega)] at hn2
              by_cases hz : (skP s q false (i2, j2, 0)).2.2 ≠ 0
              · rw [if_pos hz]; omega
              · rw [if_neg hz]
                rcases hmove with h1 | h1
                · exact absurd h1 hz
                · omega
            have DS := Lib.hid (fun w h => IH.out q (by omega) b i2 j2 0 w h hi2 hj2 hq)
            clear HQ hQ hm hmove hq hn2 hO hr3
            generalize skP s q false (i2, j2, 0) = Z at *
            go_wp2_with fail
            refine (more_any b s i2 j2 0 _ hr2 hi2 hsm).mono ?_
            rintro e w4 ⟨rfl, n4, rfl⟩
            rw [M.out]
            go_wp2_with fail
            refine (DS.out _ hr2.drewN).mono ?_
            rintro e w5 ⟨rfl, hr5, o5⟩
            go_wp2_with fail
            go_roundg q
            case measure => omega
            case rel => exact ⟨Z.1, Z.2.1, Z.2.2, by omega, hr5, hkeep.1, hkeep.2.1, hnew, hO2.drewN.trans o5, HQ2⟩
          · have hm2 : moreB s i2 k2 = false := by simpa using hm
            have hQ := HQ.out
            rw [skP, if_neg hm] at hQ
            have M := Lib.hid hm2
            have DC := Lib.hid (fun w h => rclose_any b s i2 j2 k2 w h hi2 hj2 hsm)
            have HQ2 := Lib.hid hQ
            clear HQ hQ hm hm2 hn2 hO hr3
            go_wp2_with fail
            refine (more_any b s i2 j2 k2 _ hr2 hi2 hsm).mono ?_
            rintro e w4 ⟨rfl, n4, rfl⟩
            rw [M.out]
            go_wp2_with fail
            refine (DC.out _ hr2.drewN).mono ?_
            rintro e w5 ⟨rfl, hr5, o5⟩
            go_wp2_with fail
            go_end0
            rw [HQ2.out]
            exact ⟨rfl, hr5, hO2.drewN.trans o5⟩
      · have e0 : skP s (g + 1) false (i, j, k) = ((txP s i k s.size).1, j, (txP s i k s.size).2.1) := by rw [skP, if_neg ha, if_neg hb]
        rw [e0]
        have hb2 : stB s i 40 = false := by simpa using hb
        have S2 := Lib.hid hb2
        have D := Lib.hid (fun w h => text_any b s i j k s.size w h hi hsm)
        clear ha ha2 hb hb2 e0 hn
        generalize txP s i k s.size = X at *
        go_enter Tryz.func32, Tryz.ntmps32
        go_wp2_with fail
        refine (stands_any b s i j k 105 _ h hi hsm).mono ?_
        rintro e w1 ⟨rfl, n1, rfl⟩
        rw [S1.out]
        go_wp2_with fail
        refine (stands_any b s i j k 40 _ h.drewN hi hsm).mono ?_
        rintro e w2 ⟨rfl, n2, rfl⟩
        rw [S2.out]
        have h3 := h.drewN (n := n1 + n2)
        have h3' := h3
        obtain ⟨hs, ha, ho, he, f1, f2, f3⟩ := h3'
        go_wp2_with fail
        refine (D.out _ h3).mono ?_
        rintro e w4 ⟨rfl, hr, o4⟩
        go_wp2_with fail
        go_end0
        exact ⟨rfl, hr, (Only.refl _ _).drewN.trans o4⟩
end Go.Proofs.YtjlkdglbnfifeaaGreatDoor.Pk
