/-
  MATHEMATICS of layer 5: a number's text is that number; blanks ahead of a text change nothing but the place; a whole number's text has no full stop. Plain lists and numbers, of no program.
-/
import Derived.Test.YtipcanbeegladaaGreatDoorNumM
namespace Go.Proofs.YtipcanbeegladaaGreatDoor
open Go.Lib

theorem zer_take (k : Nat) (h : k ≤ 6) : zer6.take k = List.replicate k 48 := by
  have : ∀ k : Fin 7, zer6.take k.val = List.replicate k.val 48 := by decide
  exact this ⟨k, by omega⟩
theorem pad_trim (y : List UInt8) (hy : y.length = 6) : pad6 (trimRightS y [48]) = y := by
  obtain ⟨z, hz, ha⟩ := trimR_split y [48]
  have hl : (trimRightS y [48]).length + z.length = 6 := by rw [← hy]; conv => rhs; rw [hz]
                                                            rw [List.length_append]
  have hzr : z = List.replicate z.length 48 := by
    refine List.eq_replicate_of_mem fun c hc => ?_
    have := List.all_eq_true.1 ha c hc
    simpa using this
  unfold pad6
  rw [List.take_append, List.take_of_length_le (by omega), zer_take _ (by omega), show 6 - (trimRightS y [48]).length = z.length by omega, ← hzr, ← hz]
theorem pad6_len (l : List UInt8) : (pad6 l).length = 6 := by
  unfold pad6 zer6; rw [List.length_take, List.length_append]; simp
/-- A text as a number's text has it, taken apart. -/
theorem text_parts (a : Int) : ∃ (sg B : List UInt8) (dot : Bool), textL a = sg ++ (decDigits (a.natAbs / 1000000) ++ fr dot B) ∧ (sg = [] ∨ sg = [45] ∨ sg = [43]) ∧ decide (sg = [45]) = decide (a < 0) ∧ (∀ c ∈ B, isD c = true) ∧ (dot = false → B = []) ∧ valD (pad6 B) = a.natAbs % 1000000 ∧ (dot = true ↔ a.natAbs % 1000000 ≠ 0) := by
  have hm : a.natAbs % 1000000 < 1000000 := Nat.mod_lt _ (by decide)
  refine ⟨if a < 0 then [45] else [], if a.natAbs % 1000000 = 0 then [] else trimRightS (six (a.natAbs % 1000000)) [48], decide (a.natAbs % 1000000 ≠ 0), ?_, ?_, ?_, ?_, ?_, ?_, by simp⟩
  · unfold textL fracL fr
    generalize a.natAbs % 1000000 = m
    by_cases h : m = 0 <;> simp [h]
  · split <;> simp
  · by_cases h : a < 0 <;> simp [h]
  · split
    · intro c hc; cases hc
    · intro c hc
      obtain ⟨z, hz, _⟩ := trimR_split (six (a.natAbs % 1000000)) [48]
      exact six_isD _ c (by rw [hz]; exact List.mem_append_left _ hc)
  · intro h; rw [if_pos (by simpa using h)]
  · split
    · rename_i h; rw [h]; decide
    · rw [pad_trim _ (six_len _ hm), six_val _ hm]
/-- A number's text, whatever blanks stand ahead of it, whatever byte that is none of a number's behind it. -/
theorem text_back (a : Int) (bl T : List UInt8) (ha : -4611686018427387903 ≤ a ∧ a ≤ 4611686018427387903) (hbl : ∀ c ∈ bl, blk c = true) (hT : ∀ c, T.head? = some c → isD c = false ∧ c ≠ 46) :
    prefixL (bl ++ (textL a ++ T)) = (a, (bl ++ textL a).length) := by
  obtain ⟨sg, B, dot, e, hsg, hs2, hB, hdot, hv, _⟩ := text_parts a
  have h := prefix_of bl sg (decDigits (a.natAbs / 1000000)) B T dot hbl hsg (dec_isD _) hB hdot (.inl (dec_ne _)) (fun c hc => ⟨(hT c hc).1, fun _ => (hT c hc).2⟩)
  have e2 : bl ++ (textL a ++ T) = bl ++ (sg ++ (decDigits (a.natAbs / 1000000) ++ (fr dot B ++ T))) := by rw [e]; simp
  rw [e2, h, e, hs2, valD_append, dec_val, pad6_len, hv]
  congr 1
  have : a.natAbs / 1000000 * 10 ^ 6 + a.natAbs % 1000000 = a.natAbs := by
    rw [show (10 : Nat) ^ 6 = 1000000 from rfl]; exact Nat.div_add_mod' _ _
  rw [this]
  unfold sgnI mostN
  by_cases hn : a < 0
  · simp [hn]; omega
  · simp [hn]; omega
theorem back1 (a : Int) (ha : -4611686018427387903 ≤ a ∧ a ≤ 4611686018427387903) : prefixL (textL a) = (a, (textL a).length) := by
  have h := text_back a [] [] ha (by simp) (by simp)
  simpa using h
theorem back2 (a : Int) (ha : -4611686018427387903 ≤ a ∧ a ≤ 4611686018427387903) : looksL (32 :: (textL a ++ [10])) = (a, true) := by
  have h := text_back a [32] [10] ha (by intro c hc; obtain rfl := List.mem_singleton.1 hc; rfl) (by intro c hc; simp at hc; rw [← hc]; decide)
  have e : [32] ++ (textL a ++ [10]) = 32 :: (textL a ++ [10]) := rfl
  rw [e] at h
  unfold looksL
  rw [h]
  have hl : ([32] ++ textL a).length = (textL a).length + 1 := by simp
  rw [hl]
  simp only [List.drop_succ_cons]
  rw [List.drop_left']
  · simp [blk]
  · rfl
theorem blanks_same (n : Nat) (l : List UInt8) : prefixL (List.replicate n 32 ++ l) = ((prefixL l).1, if (prefixL l).2 = 0 then 0 else (prefixL l).2 + n) := by
  have e : (List.replicate n (32 : UInt8) ++ l).dropWhile blk = l.dropWhile blk := by
    rw [List.dropWhile_append_of_pos]
    intro c hc; obtain rfl := List.eq_of_mem_replicate hc; rfl
  rcases prefix_split l with h | ⟨bl, sg, W, B, T, dot, hl, hbl, hsg, hW, hB, hdot, hne, hT⟩
  · rw [h _ e, h l rfl]; rfl
  · have h1 := prefix_of bl sg W B T dot hbl hsg hW hB hdot hne hT
    have h2 := prefix_of (List.replicate n 32 ++ bl) sg W B T dot (fun c hc => by
      rcases List.mem_append.1 hc with hc | hc
      · obtain rfl := List.eq_of_mem_replicate hc; rfl
      · exact hbl c hc) hsg hW hB hdot hne hT
    rw [List.append_assoc] at h2
    rw [hl, h1, h2]
    have h0 : (bl ++ (sg ++ (W ++ fr dot B))).length ≠ 0 := by
      simp only [List.length_append]
      rcases hne with h | h
      · have := List.length_pos_iff.2 h; omega
      · have hd : dot = true := by cases dot; · exact absurd (hdot rfl) h
                                   · rfl
        rw [hd]; simp [fr]
    rw [if_neg h0]
    congr 1
    simp; omega
/-- What is a number's text is one, all of it. -/
theorem prefix_twice (l : List UInt8) (h0 : (prefixL l).2 ≠ 0) : looksL (l.take (prefixL l).2) = ((prefixL l).1, true) := by
  rcases prefix_split l with h | ⟨bl, sg, W, B, T, dot, hl, hbl, hsg, hW, hB, hdot, hne, hT⟩
  · rw [h l rfl] at h0; exact absurd rfl h0
  · have h1 := prefix_of bl sg W B T dot hbl hsg hW hB hdot hne hT
    have h2 := prefix_of bl sg W B [] dot hbl hsg hW hB hdot hne (by simp)
    rw [← hl] at h1
    rw [h1] at h0 ⊢
    have e : l.take (bl ++ (sg ++ (W ++ fr dot B))).length = bl ++ (sg ++ (W ++ fr dot B)) := by
      conv => lhs; rw [hl]
      have : bl ++ (sg ++ (W ++ (fr dot B ++ T))) = (bl ++ (sg ++ (W ++ fr dot B))) ++ T := by simp
      rw [this, List.take_left']
      rfl
    simp only
    rw [e]
    rw [List.append_nil] at h2
    unfold looksL
    rw [h2]
    simp only
    rw [List.drop_length]
    simp only [List.length_append] at h0
    simp
    omega
theorem text_dot (a : Int) (h : a.natAbs % 1000000 = 0) : (46 : UInt8) ∉ textL a := by
  unfold textL fracL
  rw [if_pos h, List.append_nil]
  intro hm
  rcases List.mem_append.1 hm with hm | hm
  · split at hm
    · simp at hm
    · cases hm
  · exact absurd (dec_isD _ _ hm) (by decide)
end Go.Proofs.YtipcanbeegladaaGreatDoor
