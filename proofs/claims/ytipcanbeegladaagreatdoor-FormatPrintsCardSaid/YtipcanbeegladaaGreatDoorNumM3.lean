/-
  MATHEMATICS of layer 5, for the document's own answers: a text taken apart tells its number, or that there is none; digits of one length and one value are the same; a number's digits, its last six apart. Plain lists and numbers, of no program.
-/
import Derived.Test.YtipcanbeegladaaGreatDoorNumM2
namespace Go.Proofs.YtipcanbeegladaaGreatDoor
open Go.Lib

theorem prefix_all (bl sg W B T : List UInt8) (dot : Bool) (hbl : ∀ c ∈ bl, blk c = true) (hsg : sg = [] ∨ sg = [45] ∨ sg = [43]) (hW : ∀ c ∈ W, isD c = true) (hB : ∀ c ∈ B, isD c = true)
    (hdot : dot = false → B = []) (hT : ∀ c, T.head? = some c → isD c = false ∧ (dot = false → c ≠ 46)) (h0 : sg = [] → ∀ c, (W ++ (fr dot B ++ T)).head? = some c → blk c = false ∧ c ≠ 45 ∧ c ≠ 43) :
    prefixL (bl ++ (sg ++ (W ++ (fr dot B ++ T)))) = if W.length + B.length = 0 then (0, 0) else (sgnI (decide (sg = [45])) (min mostN (valD (W ++ pad6 B))), (bl ++ (sg ++ (W ++ fr dot B))).length) := by
  by_cases hne : W ≠ [] ∨ B ≠ []
  · rw [if_neg]
    · exact prefix_of bl sg W B T dot hbl hsg hW hB hdot hne hT
    · rcases hne with h | h <;> have := List.length_pos_iff.2 h <;> omega
  · have hWe : W = [] := Classical.byContradiction fun h => hne (.inl h)
    have hBe : B = [] := Classical.byContradiction fun h => hne (.inr h)
    subst hWe
    subst hBe
    rw [if_pos (show ([] : List UInt8).length + ([] : List UInt8).length = 0 from rfl)]
    have hd0 : (bl ++ (sg ++ ([] ++ (fr dot [] ++ T)))).dropWhile blk = sg ++ ([] ++ (fr dot [] ++ T)) := by
      refine dropWhile_all hbl fun c hc => ?_
      rcases hsg with rfl | rfl | rfl
      · exact (h0 rfl c (by simpa using hc)).1
      · simp at hc; rw [← hc]; decide
      · simp at hc; rw [← hc]; decide
    have h1 : (if (sg ++ ([] ++ (fr dot [] ++ T))).head? = some 45 ∨ (sg ++ ([] ++ (fr dot [] ++ T))).head? = some 43 then (sg ++ ([] ++ (fr dot [] ++ T))).drop 1 else (sg ++ ([] ++ (fr dot [] ++ T)))) = fr dot [] ++ T := by
      rcases hsg with rfl | rfl | rfl
      · rw [if_neg]
        · simp
        · simp only [List.nil_append]
          rintro (h | h)
          · exact absurd rfl (h0 rfl 45 (by simpa using h)).2.1
          · exact absurd rfl (h0 rfl 43 (by simpa using h)).2.2
      · simp
      · simp
    have hF : ∀ c, (fr dot [] ++ T).head? = some c → isD c = false := by
      intro c hc
      cases dot with
      | true => simp [fr] at hc; rw [← hc]; decide
      | false => simp [fr] at hc; exact (hT c hc).1
    have h2 : (fr dot [] ++ T).dropWhile isD = fr dot [] ++ T := dropWhile_all (x := []) (by simp) hF
    have h2' : (fr dot [] ++ T).takeWhile isD = [] := takeWhile_all (x := []) (by simp) hF
    have hB2 : (if (fr dot [] ++ T).head? = some 46 then ((fr dot [] ++ T).drop 1).takeWhile isD else []) = [] := by
      cases dot with
      | true => simp only [fr, if_true, List.cons_append, List.head?_cons, List.drop_succ_cons, List.drop_zero, List.nil_append]; exact takeWhile_all (x := []) (by simp) fun c hc => (hT c hc).1
      | false =>
        simp only [fr, List.nil_append, Bool.false_eq_true, if_false]
        rw [if_neg]
        intro h; exact (hT 46 h).2 rfl rfl
    unfold prefixL
    simp only [hd0, h1, h2, h2', hB2]
    simp

theorem valD_lt (l : List UInt8) : (∀ c ∈ l, isD c = true) → valD l < 10 ^ l.length := by
  induction l using snocInd with
  | h0 => intro _; simp [valD, valF]
  | h1 l c ih =>
    intro hc
    rw [valD_snoc, List.length_append, List.length_singleton, Nat.pow_succ]
    have h1 := ih fun c h => hc c (List.mem_append_left _ h)
    have h2 := hc c (by simp)
    unfold isD at h2; have h2 := of_decide_eq_true h2
    omega
theorem digits_inj : ∀ (n : Nat) (x y : List UInt8), x.length = n → y.length = n → (∀ c ∈ x, isD c = true) → (∀ c ∈ y, isD c = true) → valD x = valD y → x = y := by
  intro n
  induction n with
  | zero => intro x y hx hy _ _ _; rw [List.eq_nil_of_length_eq_zero hx, List.eq_nil_of_length_eq_zero hy]
  | succ n ih =>
    intro x y hx hy hdx hdy hv
    have ex : x ≠ [] := by intro h; rw [h] at hx; cases hx
    have ey : y ≠ [] := by intro h; rw [h] at hy; cases hy
    obtain ⟨x', a, rfl⟩ : ∃ x' a, x = x' ++ [a] := ⟨x.dropLast, x.getLast ex, (List.dropLast_concat_getLast ex).symm⟩
    obtain ⟨y', b, rfl⟩ : ∃ y' b, y = y' ++ [b] := ⟨y.dropLast, y.getLast ey, (List.dropLast_concat_getLast ey).symm⟩
    rw [valD_snoc, valD_snoc] at hv
    have ha := hdx a (by simp)
    have hb := hdy b (by simp)
    unfold isD at ha hb
    have ha := of_decide_eq_true ha
    have hb := of_decide_eq_true hb
    have e1 : x' = y' := ih x' y' (by simpa using hx) (by simpa using hy) (fun c h => hdx c (List.mem_append_left _ h)) (fun c h => hdy c (List.mem_append_left _ h)) (by omega)
    have e2 : a = b := by apply UInt8.toNat_inj.1; omega
    rw [e1, e2]
theorem nd_six (n : Nat) (h : 1000000 ≤ n) : nDigits n = nDigits (n / 1000000) + 6 := by
  have step : ∀ m, 10 ≤ m → nDigits m = nDigits (m / 10) + 1 := fun m hm => nDigits_big (by omega)
  rw [step n (by omega), step (n / 10) (by omega), step (n / 10 / 10) (by omega), step (n / 10 / 10 / 10) (by omega), step (n / 10 / 10 / 10 / 10) (by omega), step (n / 10 / 10 / 10 / 10 / 10) (by omega)]
  have : n / 10 / 10 / 10 / 10 / 10 / 10 = n / 1000000 := by omega
  rw [this]
/-- A number's digits, the last six apart. -/
theorem dec_six (n : Nat) (h : 1000000 ≤ n) : decDigits n = decDigits (n / 1000000) ++ six (n % 1000000) := by
  have hm : n % 1000000 < 1000000 := Nat.mod_lt _ (by decide)
  refine digits_inj (nDigits n) _ _ (decDigits_length n) ?_ (dec_isD n) ?_ ?_
  · rw [List.length_append, decDigits_length, six_len _ hm, nd_six n h]
  · intro c hc
    rcases List.mem_append.1 hc with hc | hc
    · exact dec_isD _ c hc
    · exact six_isD _ c hc
  · rw [dec_val, valD_append, dec_val, six_len _ hm, six_val _ hm]
    exact (Nat.div_add_mod' n 1000000).symm
/-- A small number's digits behind noughts. -/
theorem six_pad (m k : Nat) (hm : m < 1000000) (hk : k + nDigits m = 6) : List.replicate k 48 ++ decDigits m = six m := by
  refine digits_inj 6 _ _ ?_ (six_len m hm) ?_ (six_isD m) ?_
  · rw [List.length_append, List.length_replicate, decDigits_length, hk]
  · intro c hc
    rcases List.mem_append.1 hc with hc | hc
    · obtain rfl := List.eq_of_mem_replicate hc; rfl
    · exact dec_isD _ c hc
  · have hz : ∀ k, valD (List.replicate k 48) = 0 := fun k => by
      induction k with
      | zero => rfl
      | succ k ih => rw [List.replicate_succ', valD_snoc, ih]; rfl
    rw [valD_append, hz, dec_val, six_val m hm]; omega
theorem nd_le6 (m : Nat) (h : m < 1000000) : nDigits m ≤ 6 := by
  have h1 := nd7 m h
  have := dec_val m
  rcases Nat.lt_or_ge 6 (nDigits m) with h2 | h2
  · exfalso
    have step : ∀ m, 10 ≤ m → nDigits m = nDigits (m / 10) + 1 := fun m hm => nDigits_big (by omega)
    have small : ∀ m, m < 10 → nDigits m = 1 := fun m hm => nDigits_small hm
    by_cases a1 : m < 10
    · rw [small m a1] at h2; omega
    rw [step m (by omega)] at h2
    by_cases a2 : m / 10 < 10
    · rw [small _ a2] at h2; omega
    rw [step (m / 10) (by omega)] at h2
    by_cases a3 : m / 10 / 10 < 10
    · rw [small _ a3] at h2; omega
    rw [step (m / 10 / 10) (by omega)] at h2
    by_cases a4 : m / 10 / 10 / 10 < 10
    · rw [small _ a4] at h2; omega
    rw [step (m / 10 / 10 / 10) (by omega)] at h2
    by_cases a5 : m / 10 / 10 / 10 / 10 < 10
    · rw [small _ a5] at h2; omega
    rw [step (m / 10 / 10 / 10 / 10) (by omega), small _ (by omega)] at h2
    omega
  · exact h2
/-- The digits with noughts ahead until there are seven, and the last six of them. -/
theorem seven (n : Nat) : List.replicate (7 - nDigits n) 48 ++ decDigits n = decDigits (n / 1000000) ++ six (n % 1000000) := by
  by_cases h : 1000000 ≤ n
  · have : 7 - nDigits n = 0 := by rw [nd_six n h]; have := nDigits_pos (n / 1000000); omega
    rw [this, List.replicate_zero, List.nil_append, dec_six n h]
  · have hl := nd_le6 n (by omega)
    have hp := nDigits_pos n
    have e1 : n / 1000000 = 0 := by omega
    have e2 : n % 1000000 = n := by omega
    rw [e1, e2, ← six_pad n (6 - nDigits n) (by omega) (by omega), show 7 - nDigits n = (6 - nDigits n) + 1 by omega, List.replicate_succ, decDigits_one (show 0 < 10 by decide)]
    rfl
end Go.Proofs.YtipcanbeegladaaGreatDoor
