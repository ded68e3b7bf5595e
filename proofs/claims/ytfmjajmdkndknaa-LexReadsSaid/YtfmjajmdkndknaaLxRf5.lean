/-
  CONTRACT of the document's own answer for layer 11: one, whole: the step of the mathematics.
-/
import Derived.Test.YtfmjajmdkndknaaLxRf4
namespace Go.Proofs.Ytfmjajmdkndknaa
open Go.RowKit

theorem ext_to (s : ByteArray) (p n : Nat) : (s.extract p (p + n)).data.toList = (s.data.toList.drop p).take n := by rw [ext_mid, Nat.add_sub_cancel_left]
theorem bnat {c : UInt8} {n : Nat} (hn : n < 256) (h : ¬ c = UInt8.ofNat n) : ((c.toNat : Int) == (n : Int)) = false := by
  rw [beq_eq_false_iff_ne]; intro e; exact h (nat_of hn e)
theorem num0 {c : UInt8} {t : List UInt8} (hd : isDg c = false) (h46 : ¬ c = 46) : numL (c :: t) = 0 := by
  have h0 : digL (c :: t) = 0 := by unfold digL; rw [List.takeWhile_cons, if_neg (by rw [hd]; simp)]; rfl
  unfold numL; rw [h0, List.drop_zero, numT_cons, if_neg h46]
theorem num46 {t : List UInt8} : numL (46 :: t) = if digL t = 0 then 0 else 1 + digL t := by
  have h0 : digL (46 :: t) = 0 := by unfold digL; rw [List.takeWhile_cons, if_neg (by decide)]; rfl
  unfold numL; rw [h0, List.drop_zero, numT_cons, if_pos rfl]; simp
theorem numd {c : UInt8} {t : List UInt8} (hd : isDg c = true) : 0 < digL (c :: t) := by
  unfold digL; rw [List.takeWhile_cons, if_pos hd]; simp
theorem lt_facts {c : UInt8} (h : isLt c = true) : isDg c = false ∧ ¬ c = 46 ∧ ¬ c = 10 ∧ ¬ c = 34 ∧ ¬ c = 47 := by
  refine ⟨?_, ?_, ?_, ?_, ?_⟩
  · unfold isLt at h; unfold isDg; simp at h ⊢; omega
  all_goals (rintro rfl; revert h; decide)
theorem dg_facts {c : UInt8} (h : isDg c = true) : isLt c = false ∧ ¬ c = 10 ∧ ¬ c = 34 ∧ ¬ c = 47 := by
  refine ⟨?_, ?_, ?_, ?_⟩
  · rw [Bool.eq_false_iff]; intro e; have := (lt_facts e).1; rw [h] at this; cases this
  all_goals (rintro rfl; revert h; decide)
theorem kind_is {t b : List UInt8} : kindL t b = if t ∈ wordsL then 7 else if t ∈ builtL then 9 else if t ∈ bannL then 10 else if b.head? = some 40 then 6 else 5 := rfl
theorem sign_two {l : List UInt8} (h : l.take 2 ∈ signsL) : signL l = 2 := by unfold signL; rw [if_pos h]
theorem sign_onc {c : UInt8} {t : List UInt8} (h : ¬ (c :: t).take 2 ∈ signsL) : signL (c :: t) = if c ∈ signsC then 1 else 0 := by unfold signL; rw [if_neg h]
theorem mem_one {c : UInt8} : [c] ∈ signsC.map (fun c => [c]) ↔ c ∈ signsC := by simp
theorem short_no {c : UInt8} : ¬ [c] ∈ signsL := by
  intro h
  have h2 : ∀ x ∈ signsL, x.length = 2 := by decide
  have := h2 _ h
  simp at this
set_option maxHeartbeats 4000000 in
theorem rone_any (B : Nat) (s : ByteArray) (p : Nat) (v : Value) (l : List Tok) (w : World) (h : w.ownsRow B 44 3 v l.length (tokRow l)) (hs : s.size ≤ 10000) (hl : l.length ≤ 100000) (hp : p < s.size) :
    Calls Try.prog 19 #[.string s, .int .i64 (p : Int), v] w (RoPost p w (stepL (rxL l) (s.data.toList.drop p))) := by
  have hd := drop_at s p hp
  have CPat : Hid (∀ W, Below w.heap.size w W → Calls Try.prog 36 #[v] W fun e w' => e = .returned (.bool (rxL l)) ∧ Below W.heap.size W w') := Lib.hid fun W hb => rpat_any B v l W (own_below h hb (Nat.le_refl _)) hl
  have CDg := Lib.hid fun W => rdg_any s[p] W
  have CLt := Lib.hid fun W => rlt_any s[p] W
  rw [hd, step_cons, ← hd]
  by_cases c10 : s[p] = 10
  · rw [if_pos c10]
    exact rone_nl s p v w hs hp (by rw [c10]; rfl)
  rw [if_neg c10]
  have n10 : ((s[p].toNat : Int) == 10) = false := bnat (n := 10) (by decide) c10
  by_cases c34 : s[p] = 34
  · rw [if_pos c34]
    rw [c34] at CDg CLt
    exact rone_str s p v w hs hp (quL strEsc 34 (s.data.toList.drop (p + 1))) n10 CDg (bnat (n := 46) (by decide) (by rw [c34]; decide)) CLt (by rw [c34]; rfl) (Lib.hid fun W => rquoted_str s p W hs hp)
  rw [if_neg c34]
  have n34 : ((s[p].toNat : Int) == 34) = false := bnat (n := 34) (by decide) c34
  by_cases c47 : s[p] = 47 ∧ rxL l = true
  · rw [if_pos c47]
    rw [c47.1] at CDg CLt
    rw [c47.2] at CPat
    exact rone_re s p v w hs hp (quL reEsc 47 (s.data.toList.drop (p + 1))) n10 CDg (bnat (n := 46) (by decide) (by rw [c47.1]; decide)) CLt (by rw [c47.1]; rfl) CPat (Lib.hid fun W => rquoted_re s p W hs hp)
  rw [if_neg c47]
  cases hlt : isLt s[p] with
  | true =>
    obtain ⟨hdg, h46, _, _, _⟩ := lt_facts hlt
    rw [if_pos rfl]
    rw [hdg] at CDg
    rw [hlt] at CLt
    have n46 := bnat (c := s[p]) (n := 46) (by decide) h46
    have hn := nm_le (s.data.toList.drop p)
    rw [List.length_drop, ba_sz] at hn
    have HM : Hid (p + nmL (s.data.toList.drop p) = p + ((s.data.toList.drop p).takeWhile isNm).length) := Lib.hid rfl
    have hTx := ext_to s p (nmL (s.data.toList.drop p))
    have hdM : (s.data.toList.drop p).drop (nmL (s.data.toList.drop p)) = s.data.toList.drop (p + nmL (s.data.toList.drop p)) := by rw [List.drop_drop]
    rw [hdM]
    obtain ⟨n, hn0⟩ : ∃ n, nmL (s.data.toList.drop p) = n := ⟨_, rfl⟩
    rw [hn0] at hn HM hTx ⊢
    obtain ⟨M, hM⟩ : ∃ M, p + n = M := ⟨_, rfl⟩
    have hz : n = M - p := by omega
    have hMs : M ≤ s.size := by omega
    have hpM : p ≤ M := by omega
    rw [hM] at HM hTx ⊢
    rw [← hTx]
    obtain ⟨Tx, hT⟩ : ∃ T, s.extract p M = T := ⟨_, rfl⟩
    rw [hT, hz]
    have HT := Lib.hid hT
    have AW := fun b (hb : decide (Tx.data.toList ∈ wordsL) = b) => Lib.hid fun W => am_w Tx b hb W
    have AB := fun b (hb : decide (Tx.data.toList ∈ builtL) = b) => Lib.hid fun W => am_b Tx b hb W
    have AN := fun b (hb : decide (Tx.data.toList ∈ bannL) = b) => Lib.hid fun W => am_n Tx b hb W
    rw [kind_is]
    by_cases mW : Tx.data.toList ∈ wordsL
    · have dd := disj1 _ mW
      rw [if_pos mW]
      by_cases hlM : M < s.size
      · by_cases h40 : s[M] = 40
        · exact rone_wyW s p v w hs hp M Tx n10 CDg n46 CLt HM hMs hpM HT hlM (Lib.hid (by rw [h40]; rfl)) (AW true (decide_eq_true mW)) (AB false (decide_eq_false dd.1)) (AN false (decide_eq_false dd.2))
        · exact rone_wn2W s p v w hs hp M Tx n10 CDg n46 CLt HM hMs hpM HT hlM (bnat (n := 40) (by decide) h40) (AW true (decide_eq_true mW)) (AB false (decide_eq_false dd.1)) (AN false (decide_eq_false dd.2))
      · exact rone_wn1W s p v w hs hp M Tx n10 CDg n46 CLt HM hMs hpM HT hlM (AW true (decide_eq_true mW)) (AB false (decide_eq_false dd.1)) (AN false (decide_eq_false dd.2))
    rw [if_neg mW]
    by_cases mB : Tx.data.toList ∈ builtL
    · have dd := disj2 _ mB
      rw [if_pos mB]
      by_cases hlM : M < s.size
      · by_cases h40 : s[M] = 40
        · exact rone_wyB s p v w hs hp M Tx n10 CDg n46 CLt HM hMs hpM HT hlM (Lib.hid (by rw [h40]; rfl)) (AW false (decide_eq_false mW)) (AB true (decide_eq_true mB)) (AN false (decide_eq_false dd))
        · exact rone_wn2B s p v w hs hp M Tx n10 CDg n46 CLt HM hMs hpM HT hlM (bnat (n := 40) (by decide) h40) (AW false (decide_eq_false mW)) (AB true (decide_eq_true mB)) (AN false (decide_eq_false dd))
      · exact rone_wn1B s p v w hs hp M Tx n10 CDg n46 CLt HM hMs hpM HT hlM (AW false (decide_eq_false mW)) (AB true (decide_eq_true mB)) (AN false (decide_eq_false dd))
    rw [if_neg mB]
    by_cases mN : Tx.data.toList ∈ bannL
    · rw [if_pos mN]
      by_cases hlM : M < s.size
      · by_cases h40 : s[M] = 40
        · exact rone_wyN s p v w hs hp M Tx n10 CDg n46 CLt HM hMs hpM HT hlM (Lib.hid (by rw [h40]; rfl)) (AW false (decide_eq_false mW)) (AB false (decide_eq_false mB)) (AN true (decide_eq_true mN))
        · exact rone_wn2N s p v w hs hp M Tx n10 CDg n46 CLt HM hMs hpM HT hlM (bnat (n := 40) (by decide) h40) (AW false (decide_eq_false mW)) (AB false (decide_eq_false mB)) (AN true (decide_eq_true mN))
      · exact rone_wn1N s p v w hs hp M Tx n10 CDg n46 CLt HM hMs hpM HT hlM (AW false (decide_eq_false mW)) (AB false (decide_eq_false mB)) (AN true (decide_eq_true mN))
    rw [if_neg mN]
    by_cases hlM : M < s.size
    · by_cases h40 : s[M] = 40
      · rw [drop_at s M hlM, List.head?_cons, if_pos (by rw [h40])]
        exact rone_wyO s p v w hs hp M Tx n10 CDg n46 CLt HM hMs hpM HT hlM (Lib.hid (by rw [h40]; rfl)) (AW false (decide_eq_false mW)) (AB false (decide_eq_false mB)) (AN false (decide_eq_false mN))
      · rw [drop_at s M hlM, List.head?_cons, if_neg (fun e => h40 (Option.some.inj e))]
        exact rone_wn2O s p v w hs hp M Tx n10 CDg n46 CLt HM hMs hpM HT hlM (bnat (n := 40) (by decide) h40) (AW false (decide_eq_false mW)) (AB false (decide_eq_false mB)) (AN false (decide_eq_false mN))
    · rw [drop_end s M (by omega), List.head?_nil, if_neg (by simp)]
      exact rone_wn1O s p v w hs hp M Tx n10 CDg n46 CLt HM hMs hpM HT hlM (AW false (decide_eq_false mW)) (AB false (decide_eq_false mB)) (AN false (decide_eq_false mN))
  | false =>
    rw [if_neg (by simp)]
    rw [hlt] at CLt
    have hD1 := Lib.hid fun W => run_any s p W (by omega) (by omega)
    have hnl := num_le (s.data.toList.drop p)
    rw [List.length_drop, ba_sz] at hnl
    cases hdg : isDg s[p] with
    | true =>
      rw [hdg] at CDg
      have hpos := numd (t := s.data.toList.drop (p + 1)) hdg
      rw [← hd] at hpos
      have hN : numL (s.data.toList.drop p) = numT (digL (s.data.toList.drop p)) ((s.data.toList.drop p).drop (digL (s.data.toList.drop p))) := rfl
      rw [List.drop_drop] at hN
      have hdl := dig_le (s.data.toList.drop p)
      rw [List.length_drop, ba_sz] at hdl
      obtain ⟨D, hD⟩ : ∃ D, digL (s.data.toList.drop p) = D := ⟨_, rfl⟩
      rw [hD] at hN hdl hpos hD1
      by_cases hE : p + D < s.size
      · by_cases h46 : s[p + D] = 46
        · have CP1 := Lib.hid fun W => run_any s (p + D + 1) W (by omega) (by omega)
          have hPl := dig_le (s.data.toList.drop (p + D + 1))
          rw [List.length_drop, ba_sz] at hPl
          rw [drop_at s (p + D) hE, numT_cons, if_pos h46] at hN
          obtain ⟨P, hP⟩ : ∃ P, digL (s.data.toList.drop (p + D + 1)) = P := ⟨_, rfl⟩
          rw [hP] at hN CP1 hPl
          rw [if_neg (by omega)] at hN
          rw [if_pos (by omega), hN, ← ext_to]
          exact rone_numAdot s p v w hs hp D (D + 1 + P) (p + D) (s.extract p (p + (D + 1 + P))) n10 CDg hD1 (by omega) (by omega) hE (by rw [h46]; rfl) P (p + (D + 1 + P)) CP1 (by omega) rfl (by omega) (Lib.hid rfl)
        · rw [drop_at s (p + D) hE, numT_cons, if_neg h46] at hN
          rw [if_pos (by omega), hN, ← ext_to]
          exact rone_numAno2 s p v w hs hp D D (p + D) (s.extract p (p + D)) n10 CDg hD1 (by omega) (by omega) hE (bnat (n := 46) (by decide) h46) rfl (Lib.hid rfl)
      · rw [drop_end s (p + D) (by omega)] at hN
        have hN' : numL (s.data.toList.drop p) = D := hN
        rw [if_pos (by omega), hN', ← ext_to]
        exact rone_numAno1 s p v w hs hp D D (p + D) (s.extract p (p + D)) n10 CDg hD1 (by omega) (by omega) (by omega) rfl (Lib.hid rfl)
    | false =>
      rw [hdg] at CDg
      have hd2 : (s.data.toList.drop p).take 1 = [s[p]] := by rw [hd]; rfl
      have hx1 := ext_to s p 1
      have hx2 := ext_to s p 2
      have C1 := fun b (hb : decide (s[p] ∈ signsC) = b) => Lib.hid fun W => am_1 (s.extract p (p + 1)) b (by rw [hx1, hd2, ← hb]; exact decide_eq_decide.2 mem_one) W
      have C2 := fun b (hb : decide ((s.data.toList.drop p).take 2 ∈ signsL) = b) => Lib.hid fun W => am_2 (s.extract p (p + 2)) b (by rw [hx2]; exact hb) W
      by_cases h46 : s[p] = 46
      · have hN := num46 (t := s.data.toList.drop (p + 1))
        rw [← h46, ← hd] at hN
        have CP := Lib.hid fun W => run_any s (p + 1) W (by omega) (by omega)
        have hPl := dig_le (s.data.toList.drop (p + 1))
        rw [List.length_drop, ba_sz] at hPl
        obtain ⟨P, hP⟩ : ∃ P, digL (s.data.toList.drop (p + 1)) = P := ⟨_, rfl⟩
        rw [hP] at hN CP hPl
        rw [h46] at CDg CLt
        by_cases hP0 : P = 0
        · rw [if_pos hP0] at hN
          rw [if_neg (by omega)]
          subst hP0
          have hs0 : ¬ (s.data.toList.drop p).take 2 ∈ signsL := by
            rw [hd, h46]
            intro hm
            have h2 : ∀ x ∈ signsL, ¬ x.head? = some 46 := by decide
            exact h2 _ hm rfl
          have hsg : signL (s.data.toList.drop p) = 0 := by rw [hd] at hs0 ⊢; rw [sign_onc hs0, h46]; rfl
          rw [if_neg (by omega)]
          by_cases hlp : p + 1 < s.size
          · exact rone_sg_p_lt_none s p v w hs hp n10 CDg (by rw [h46]; rfl) CP CLt hlp (C2 false (decide_eq_false hs0)) (C1 false (by rw [h46]; decide))
          · exact rone_sg_p_ge_none s p v w hs hp n10 CDg (by rw [h46]; rfl) CP CLt hlp (C1 false (by rw [h46]; decide))
        · rw [if_neg hP0] at hN
          rw [if_pos (by omega), hN, ← ext_to]
          have hD0 : digL (s.data.toList.drop p) = 0 := by rw [hd]; unfold digL; rw [List.takeWhile_cons, if_neg (by rw [hdg]; simp)]; rfl
          rw [hD0] at hD1
          exact rone_numBdot s p v w hs hp P 0 (1 + P) p (s.extract p (p + (1 + P))) n10 CDg (by rw [h46]; rfl) CP (by omega) hD1 (by simp) (by omega) hp (by rw [h46]; rfl) P (p + (1 + P)) CP (by omega) rfl (by omega) (Lib.hid rfl)
      · have hN : numL (s.data.toList.drop p) = 0 := by rw [hd]; exact num0 hdg h46
        have n46 := bnat (c := s[p]) (n := 46) (by decide) h46
        rw [if_neg (by omega)]
        by_cases h47 : s[p] = 47
        · have hrx : rxL l = false := by rw [Bool.eq_false_iff]; intro e; exact c47 ⟨h47, e⟩
          rw [hrx] at CPat
          have h47i : (s[p].toNat : Int) = 47 := by rw [h47]; rfl
          rw [h47] at CDg CLt
          by_cases hlp : p + 1 < s.size
          · by_cases m2 : (s.data.toList.drop p).take 2 ∈ signsL
            · rw [sign_two m2, if_pos (by decide), ← hx2]
              exact rone_sg_d_lt_two s p v w hs hp n10 CDg n46 CLt h47i CPat hlp (C2 true (decide_eq_true m2))
            · have hsg : signL (s.data.toList.drop p) = if s[p] ∈ signsC then 1 else 0 := by rw [hd] at m2 ⊢; exact sign_onc m2
              rw [hsg, if_pos (show s[p] ∈ signsC by rw [h47]; decide), if_pos (by decide), ← hx1]
              exact rone_sg_d_lt_one s p v w hs hp n10 CDg n46 CLt h47i CPat hlp (C2 false (decide_eq_false m2)) (C1 true (by rw [h47]; decide))
          · have m2 : ¬ (s.data.toList.drop p).take 2 ∈ signsL := by rw [hd, drop_end s (p + 1) (by omega)]; exact short_no
            have hsg : signL (s.data.toList.drop p) = if s[p] ∈ signsC then 1 else 0 := by rw [hd] at m2 ⊢; exact sign_onc m2
            rw [hsg, if_pos (show s[p] ∈ signsC by rw [h47]; decide), if_pos (by decide), ← hx1]
            exact rone_sg_d_ge_one s p v w hs hp n10 CDg n46 CLt h47i CPat hlp (C1 true (by rw [h47]; decide))
        · have n47 := bnat (c := s[p]) (n := 47) (by decide) h47
          by_cases hlp : p + 1 < s.size
          · by_cases m2 : (s.data.toList.drop p).take 2 ∈ signsL
            · rw [sign_two m2, if_pos (by decide), ← hx2]
              exact rone_sg_o_lt_two s p v w hs hp n10 CDg n46 CLt n34 n47 hlp (C2 true (decide_eq_true m2))
            · have hsg : signL (s.data.toList.drop p) = if s[p] ∈ signsC then 1 else 0 := by rw [hd] at m2 ⊢; exact sign_onc m2
              rw [hsg]
              by_cases m1 : s[p] ∈ signsC
              · rw [if_pos m1, if_pos (by decide), ← hx1]
                exact rone_sg_o_lt_one s p v w hs hp n10 CDg n46 CLt n34 n47 hlp (C2 false (decide_eq_false m2)) (C1 true (decide_eq_true m1))
              · rw [if_neg m1, if_neg (by decide)]
                exact rone_sg_o_lt_none s p v w hs hp n10 CDg n46 CLt n34 n47 hlp (C2 false (decide_eq_false m2)) (C1 false (decide_eq_false m1))
          · have m2 : ¬ (s.data.toList.drop p).take 2 ∈ signsL := by rw [hd, drop_end s (p + 1) (by omega)]; exact short_no
            have hsg : signL (s.data.toList.drop p) = if s[p] ∈ signsC then 1 else 0 := by rw [hd] at m2 ⊢; exact sign_onc m2
            rw [hsg]
            by_cases m1 : s[p] ∈ signsC
            · rw [if_pos m1, if_pos (by decide), ← hx1]
              exact rone_sg_o_ge_one s p v w hs hp n10 CDg n46 CLt n34 n47 hlp (C1 true (decide_eq_true m1))
            · rw [if_neg m1, if_neg (by decide)]
              exact rone_sg_o_ge_none s p v w hs hp n10 CDg n46 CLt n34 n47 hlp (C1 false (decide_eq_false m1))
end Go.Proofs.Ytfmjajmdkndknaa
