/-
  MATHEMATICS of layer 5: what a text says as a number, how a number is spelled, and that the one takes back the other: plain lists and numbers, of no program.
-/
import Derived.WalkKit
import Derived.Lib.ItoaNum
import Derived.Lib.SlTrimSet
import Derived.Lib.Strings
namespace Go.Proofs.YtipcanbeegladaaGreatDoor
open Go.Lib

def mostN : Nat := 4611686018427387903
def isD (c : UInt8) : Bool := decide (48 ≤ c.toNat ∧ c.toNat ≤ 57)
def blk (c : UInt8) : Bool := [(32 : UInt8), 9, 10].contains c
def valF (n : Nat) (l : List UInt8) : Nat := l.foldl (fun n c => 10 * n + (c.toNat - 48)) n
def valD (l : List UInt8) : Nat := valF 0 l
def sgnI (b : Bool) (n : Nat) : Int := if b then -(n : Int) else n
def zer6 : List UInt8 := [48, 48, 48, 48, 48, 48]
def pad6 (l : List UInt8) : List UInt8 := (l ++ zer6).take 6

theorem snocInd {P : List UInt8 → Prop} (h0 : P []) (h1 : ∀ l c, P l → P (l ++ [c])) (l : List UInt8) : P l := by
  rw [← List.reverse_reverse l]
  induction l.reverse with
  | nil => exact h0
  | cons c r ih => rw [List.reverse_cons]; exact h1 _ _ ih
theorem dropW_nil (p : UInt8 → Bool) : ∀ l : List UInt8, l.dropWhile p = [] ↔ ∀ c ∈ l, p c = true
  | [] => by simp
  | a :: l => by
    rw [List.dropWhile_cons]
    by_cases ha : p a = true
    · rw [if_pos ha, dropW_nil p l]; simp [ha]
    · rw [if_neg ha]; simp [ha]
theorem valF_append (n : Nat) (l m : List UInt8) : valF n (l ++ m) = valF (valF n l) m := by unfold valF; rw [List.foldl_append]
theorem valF_snoc (n : Nat) (l : List UInt8) (c : UInt8) : valF n (l ++ [c]) = 10 * valF n l + (c.toNat - 48) := by rw [valF_append]; rfl
theorem valF_cons (n : Nat) (l : List UInt8) (c : UInt8) : valF n (c :: l) = valF (10 * n + (c.toNat - 48)) l := by unfold valF; rw [List.foldl_cons]
theorem valF_lin (l : List UInt8) : ∀ n, valF n l = n * 10 ^ l.length + valD l := by
  unfold valD
  induction l with
  | nil => intro n; simp [valF]
  | cons c l ih =>
    intro n
    rw [valF_cons, valF_cons, ih, ih (10 * 0 + _), List.length_cons, Nat.pow_succ]
    rw [Nat.add_mul, Nat.add_mul, Nat.mul_comm 10 n, Nat.mul_assoc, Nat.mul_comm 10 (10 ^ l.length)]
    omega
theorem valD_append (l m : List UInt8) : valD (l ++ m) = valD l * 10 ^ m.length + valD m := by
  unfold valD; rw [valF_append, valF_lin]; rfl
theorem valD_snoc (l : List UInt8) (c : UInt8) : valD (l ++ [c]) = 10 * valD l + (c.toNat - 48) := valF_snoc 0 l c

theorem dig_nat (u : Nat) : (UInt8.ofNat (48 + u % 10)).toNat = 48 + u % 10 := by rw [UInt8.toNat_ofNat_of_lt' (by show 48 + u % 10 < 256; omega)]
theorem dec_snoc (u : Nat) (h : ¬ u < 10) : decDigits u = decDigits (u / 10) ++ [UInt8.ofNat (48 + u % 10)] := by rw [decDigits, dif_neg h]
theorem dec_val (u : Nat) : valD (decDigits u) = u := by
  induction u using Nat.strongRecOn with
  | ind u ih =>
    by_cases h : u < 10
    · rw [decDigits_one h]; show 10 * 0 + ((UInt8.ofNat (48 + u)).toNat - 48) = u
      have := dig_nat u; rw [show u % 10 = u by omega] at this; rw [this]; omega
    · rw [dec_snoc u h, valD_snoc, ih (u / 10) (by omega), dig_nat]; omega
theorem dec_isD (u : Nat) : ∀ c ∈ decDigits u, isD c = true := by
  induction u using Nat.strongRecOn with
  | ind u ih =>
    by_cases h : u < 10
    · rw [decDigits_one h]; intro c hc
      obtain rfl := List.mem_singleton.1 hc
      have := dig_nat u; rw [show u % 10 = u by omega] at this; unfold isD; rw [this]; exact decide_eq_true (by omega)
    · rw [dec_snoc u h]; intro c hc
      rcases List.mem_append.1 hc with hc | hc
      · exact ih (u / 10) (by omega) c hc
      · obtain rfl := List.mem_singleton.1 hc
        unfold isD; rw [dig_nat]; exact decide_eq_true (by omega)
theorem dec_ne (u : Nat) : decDigits u ≠ [] := by
  intro h; have := decDigits_length u; rw [h] at this; have := nDigits_pos u; simp at *; omega
/-- The first digit of a number above 0 isn't 0. -/
theorem dec_head (u : Nat) (h0 : 0 < u) : ∃ c l, decDigits u = c :: l ∧ c.toNat ≠ 48 ∧ isD c = true := by
  induction u using Nat.strongRecOn with
  | ind u ih =>
    by_cases h : u < 10
    · refine ⟨_, [], decDigits_one h, ?_, dec_isD u _ (by rw [decDigits_one h]; simp)⟩
      have := dig_nat u; rw [show u % 10 = u by omega] at this; rw [this]; omega
    · obtain ⟨c, l, e, h1, h2⟩ := ih (u / 10) (by omega) (by omega)
      exact ⟨c, l ++ [_], by rw [dec_snoc u h, e]; rfl, h1, h2⟩

/-- The six places of a number below a million. -/
def six (m : Nat) : List UInt8 := (decDigits (1000000 + m)).drop 1
theorem nd7 (m : Nat) (h : m < 1000000) : nDigits (1000000 + m) = 7 := nDigits_unique 6 (1000000 + m) (by omega) (by omega)
theorem six_len (m : Nat) (h : m < 1000000) : (six m).length = 6 := by unfold six; rw [List.length_drop, decDigits_length, nd7 m h]
theorem six_isD (m : Nat) : ∀ c ∈ six m, isD c = true := fun c hc => dec_isD _ c (List.mem_of_mem_drop hc)
theorem six_one (m : Nat) (h : m < 1000000) : decDigits (1000000 + m) = 49 :: six m := by
  obtain ⟨c, l, e, _, hd⟩ := dec_head (1000000 + m) (by omega)
  have hl : l.length = 6 := by have := decDigits_length (1000000 + m); rw [e, nd7 m h] at this; simpa using this
  have hv := dec_val (1000000 + m)
  rw [e, show c :: l = [c] ++ l from rfl, valD_append, hl] at hv
  have hlt : ∀ l : List UInt8, (∀ c ∈ l, isD c = true) → valD l < 10 ^ l.length := by
    intro l
    induction l using snocInd with
    | h0 => intro _; simp [valD, valF]
    | h1 l c ih =>
      intro hc
      rw [valD_snoc, List.length_append, List.length_singleton, Nat.pow_succ]
      have h1 := ih fun c h => hc c (List.mem_append_left _ h)
      have h2 := hc c (by simp)
      unfold isD at h2; have h2 := of_decide_eq_true h2
      omega
  have h6 := hlt l fun c h => dec_isD (1000000 + m) c (by rw [e]; exact List.mem_cons_of_mem _ h)
  rw [hl] at h6
  have hc : valD [c] = c.toNat - 48 := by show 10 * 0 + (c.toNat - 48) = _; omega
  rw [hc] at hv
  have : c.toNat - 48 = 1 := by omega
  have hcc : c = 49 := by
    apply UInt8.toNat_inj.1
    show c.toNat = 49; omega
  unfold six; rw [e, hcc]; rfl
theorem six_val (m : Nat) (h : m < 1000000) : valD (six m) = m := by
  have hv := dec_val (1000000 + m)
  rw [six_one m h, show (49 : UInt8) :: six m = [49] ++ six m from rfl, valD_append, six_len m h] at hv
  have : valD [(49 : UInt8)] = 1 := rfl
  omega

/-! Trimming. -/
theorem trimR_all (x y cs : List UInt8) (h : y.all (cs.contains ·) = true) : trimRightS (x ++ y) cs = trimRightS x cs := by
  unfold trimRightS
  rw [List.reverse_append, List.dropWhile_append]
  have : y.reverse.dropWhile (cs.contains ·) = [] := by
    rw [dropW_nil]; intro c hc; exact List.all_eq_true.1 h c (List.mem_reverse.1 hc)
  rw [this]; rfl
theorem trimR_some (x y cs : List UInt8) (h : y.all (cs.contains ·) = false) : trimRightS (x ++ y) cs = x ++ trimRightS y cs := by
  unfold trimRightS
  rw [List.reverse_append, List.dropWhile_append]
  have : (y.reverse.dropWhile (cs.contains ·)).isEmpty = false := by
    rw [Bool.eq_false_iff]; intro he
    rw [List.isEmpty_iff, dropW_nil] at he
    rw [Bool.eq_false_iff] at h
    exact h (List.all_eq_true.2 fun c hc => he c (List.mem_reverse.2 hc))
  rw [this]; simp
/-- What is trimmed away. -/
theorem trimR_split (y cs : List UInt8) : ∃ z, y = trimRightS y cs ++ z ∧ z.all (cs.contains ·) = true := by
  refine ⟨(y.reverse.takeWhile (cs.contains ·)).reverse, ?_, ?_⟩
  · unfold trimRightS
    rw [← List.reverse_append, List.takeWhile_append_dropWhile, List.reverse_reverse]
  · rw [List.all_eq_true]; intro c hc
    have := List.mem_reverse.1 hc
    exact (List.all_eq_true.1 (List.all_takeWhile (p := (cs.contains ·)) (l := y.reverse))) c this
theorem trimR_ne (y cs : List UInt8) (h : y.all (cs.contains ·) = false) : trimRightS y cs ≠ [] := by
  intro he; obtain ⟨z, hz, ha⟩ := trimR_split y cs
  rw [he, List.nil_append] at hz; rw [← hz] at ha; rw [ha] at h; cases h
theorem suffix_not (A B : List UInt8) (hB : B ≠ []) (h46 : ∀ c ∈ B, c ≠ 46) : hasSuffix (A ++ B) [46] = false := by
  rw [Bool.eq_false_iff]; intro h
  unfold hasSuffix at h
  obtain ⟨t, ht⟩ := List.isSuffixOf_iff_suffix.1 h
  obtain ⟨B', x, rfl⟩ : ∃ B' x, B = B' ++ [x] := ⟨B.dropLast, B.getLast hB, (List.dropLast_concat_getLast hB).symm⟩
  rw [← List.append_assoc] at ht
  obtain ⟨_, hx⟩ := List.append_inj' ht rfl
  exact h46 x (by simp) (by simpa using hx.symm)

/-! A number's text. -/
def fracL (m : Nat) : List UInt8 := if m = 0 then [] else 46 :: trimRightS (six m) [48]
def textL (a : Int) : List UInt8 := (if a < 0 then [45] else []) ++ (decDigits (a.natAbs / 1000000) ++ fracL (a.natAbs % 1000000))

theorem six_all (m : Nat) (h : m < 1000000) : (six m).all ([(48 : UInt8)].contains ·) = decide (m = 0) := by
  rw [Bool.eq_iff_iff, decide_eq_true_iff, List.all_eq_true]
  constructor
  · intro hz
    have hz : ∀ l : List UInt8, (∀ c ∈ l, c = 48) → valD l = 0 := by
      intro l
      induction l using snocInd with
      | h0 => intro _; rfl
      | h1 l c ih =>
        intro hc
        rw [valD_snoc, ih fun c h => hc c (List.mem_append_left _ h), hc c (by simp)]; rfl
    rw [← six_val m h]
    exact hz _ fun c hc => by rename_i h0; have := h0 c hc; simpa using this
  · rintro rfl; decide +kernel
theorem text_trim (n : Nat) :
    trimSuffix (trimRightS (decDigits (n / 1000000) ++ 46 :: (decDigits (1000000 + n % 1000000)).drop 1) [48]) [46] = decDigits (n / 1000000) ++ fracL (n % 1000000) := by
  have hm : n % 1000000 < 1000000 := Nat.mod_lt _ (by decide)
  generalize n % 1000000 = m at *
  generalize n / 1000000 = k
  show trimSuffix (trimRightS (decDigits k ++ ([46] ++ six m)) [48]) [46] = _
  have ha := six_all m hm
  unfold fracL
  by_cases h0 : m = 0
  · rw [if_pos h0]
    rw [decide_eq_true h0] at ha
    rw [← List.append_assoc, trimR_all _ _ _ ha, trimR_some _ [46] [48] (by decide)]
    have e : trimRightS [46] [48] = [46] := by decide
    rw [e]
    unfold trimSuffix
    have : hasSuffix (decDigits k ++ [46]) [46] = true := List.isSuffixOf_iff_suffix.2 ⟨_, rfl⟩
    rw [if_pos this]; simp
  · rw [if_neg h0]
    rw [decide_eq_false h0] at ha
    rw [← List.append_assoc, trimR_some _ _ _ ha]
    unfold trimSuffix
    have : hasSuffix ((decDigits k ++ [46]) ++ trimRightS (six m) [48]) [46] = false := by
      refine suffix_not _ _ (trimR_ne _ _ ha) fun c hc => ?_
      obtain ⟨z, hz, _⟩ := trimR_split (six m) [48]
      have := six_isD m c (by rw [hz]; exact List.mem_append_left _ hc)
      rintro rfl; exact absurd this (by decide)
    rw [this]; simp

/-! What a text says. -/
def prefixL (l : List UInt8) : Int × Nat :=
  let r0 := l.dropWhile blk
  let r1 := if r0.head? = some 45 ∨ r0.head? = some 43 then r0.drop 1 else r0
  let r2 := r1.dropWhile isD
  let B := if r2.head? = some 46 then (r2.drop 1).takeWhile isD else []
  let r3 := if r2.head? = some 46 then (r2.drop 1).dropWhile isD else r2
  if r1.takeWhile isD = [] ∧ B = [] then (0, 0)
  else (sgnI (decide (r0.head? = some 45)) (min mostN (valD (r1.takeWhile isD ++ pad6 B))), l.length - r3.length)

theorem takeWhile_all {p : UInt8 → Bool} {x y : List UInt8} (hx : ∀ c ∈ x, p c = true) (hy : ∀ c, y.head? = some c → p c = false) : (x ++ y).takeWhile p = x := by
  rw [List.takeWhile_append_of_pos hx]
  cases y with
  | nil => simp
  | cons c y => rw [List.takeWhile_cons, hy c rfl]; simp
theorem dropWhile_all {p : UInt8 → Bool} {x y : List UInt8} (hx : ∀ c ∈ x, p c = true) (hy : ∀ c, y.head? = some c → p c = false) : (x ++ y).dropWhile p = y := by
  rw [List.dropWhile_append_of_pos hx]
  cases y with
  | nil => simp
  | cons c y => rw [List.dropWhile_cons, hy c rfl]; simp
theorem dropWhile_head {p : UInt8 → Bool} : ∀ l : List UInt8, ∀ c, (l.dropWhile p).head? = some c → p c = false
  | [], c, h => by simp at h
  | a :: l, c, h => by
    rw [List.dropWhile_cons] at h
    by_cases ha : p a = true
    · rw [if_pos ha] at h; exact dropWhile_head l c h
    · rw [if_neg ha] at h; simp at h; rw [← h]; simpa using ha

/-- The places behind a full stop: with it, if there is one. -/
def fr (dot : Bool) (B : List UInt8) : List UInt8 := if dot then 46 :: B else []
/-- A number among other bytes. -/
theorem prefix_of (bl sg W B T : List UInt8) (dot : Bool) (hbl : ∀ c ∈ bl, blk c = true) (hsg : sg = [] ∨ sg = [45] ∨ sg = [43]) (hW : ∀ c ∈ W, isD c = true) (hB : ∀ c ∈ B, isD c = true)
    (hdot : dot = false → B = []) (hne : W ≠ [] ∨ B ≠ []) (hT : ∀ c, T.head? = some c → isD c = false ∧ (dot = false → c ≠ 46)) :
    prefixL (bl ++ (sg ++ (W ++ (fr dot B ++ T)))) = (sgnI (decide (sg = [45])) (min mostN (valD (W ++ pad6 B))), (bl ++ (sg ++ (W ++ fr dot B))).length) := by
  have hd : ∀ c, isD c = true → blk c = false ∧ c ≠ 45 ∧ c ≠ 43 ∧ c ≠ 46 := by
    intro c hc
    unfold isD at hc
    have hc := of_decide_eq_true hc
    refine ⟨?_, ?_, ?_, ?_⟩
    · rw [Bool.eq_false_iff]; intro h
      unfold blk at h
      have : c = 32 ∨ c = 9 ∨ c = 10 := by simpa using h
      rcases this with rfl | rfl | rfl <;> simp at hc
    all_goals (rintro rfl; simp at hc)
  have hX : ∀ c, (W ++ (fr dot B ++ T)).head? = some c → isD c = true ∨ c = 46 := by
    intro c hc
    cases W with
    | cons a W => simp at hc; rw [← hc]; exact .inl (hW a (by simp))
    | nil =>
      cases dot with
      | true => simp [fr] at hc; exact .inr hc.symm
      | false => rw [hdot rfl] at hne; simp at hne
  have hXb : ∀ c, (W ++ (fr dot B ++ T)).head? = some c → blk c = false ∧ c ≠ 45 ∧ c ≠ 43 := by
    intro c hc
    rcases hX c hc with h | rfl
    · exact ⟨(hd c h).1, (hd c h).2.1, (hd c h).2.2.1⟩
    · decide
  have h0 : (bl ++ (sg ++ (W ++ (fr dot B ++ T)))).dropWhile blk = sg ++ (W ++ (fr dot B ++ T)) := by
    refine dropWhile_all hbl fun c hc => ?_
    rcases hsg with rfl | rfl | rfl
    · exact (hXb c (by simpa using hc)).1
    · simp at hc; rw [← hc]; decide
    · simp at hc; rw [← hc]; decide
  have h45 : ((sg ++ (W ++ (fr dot B ++ T))).head? = some 45) ↔ sg = [45] := by
    rcases hsg with rfl | rfl | rfl
    · simp only [List.nil_append]
      constructor
      · intro h; exact absurd rfl (hXb 45 h).2.1
      · intro h; cases h
    · simp
    · simp
  have h1 : (if (sg ++ (W ++ (fr dot B ++ T))).head? = some 45 ∨ (sg ++ (W ++ (fr dot B ++ T))).head? = some 43 then (sg ++ (W ++ (fr dot B ++ T))).drop 1 else (sg ++ (W ++ (fr dot B ++ T)))) = W ++ (fr dot B ++ T) := by
    rcases hsg with rfl | rfl | rfl
    · rw [if_neg]
      · simp
      · simp only [List.nil_append]
        rintro (h | h)
        · exact absurd rfl (hXb 45 h).2.1
        · exact absurd rfl (hXb 43 h).2.2
    · simp
    · simp
  have hF : ∀ c, (fr dot B ++ T).head? = some c → isD c = false := by
    intro c hc
    cases dot with
    | true => simp [fr] at hc; rw [← hc]; decide
    | false => simp [fr] at hc; exact (hT c hc).1
  have h2 : (W ++ (fr dot B ++ T)).dropWhile isD = fr dot B ++ T := dropWhile_all hW hF
  have h2' : (W ++ (fr dot B ++ T)).takeWhile isD = W := takeWhile_all hW hF
  have hB2 : (if (fr dot B ++ T).head? = some 46 then ((fr dot B ++ T).drop 1).takeWhile isD else []) = B := by
    cases dot with
    | true => simp only [fr, if_true, List.cons_append, List.head?_cons, List.drop_succ_cons, List.drop_zero]; exact takeWhile_all hB fun c hc => (hT c hc).1
    | false =>
      simp only [fr, List.nil_append, Bool.false_eq_true, if_false]
      rw [if_neg, hdot rfl]
      intro h; exact (hT 46 h).2 rfl rfl
  have hR3 : (if (fr dot B ++ T).head? = some 46 then ((fr dot B ++ T).drop 1).dropWhile isD else (fr dot B ++ T)) = T := by
    cases dot with
    | true => simp only [fr, if_true, List.cons_append, List.head?_cons, List.drop_succ_cons, List.drop_zero]; exact dropWhile_all hB fun c hc => (hT c hc).1
    | false =>
      simp only [fr, List.nil_append, Bool.false_eq_true, if_false]
      rw [if_neg]
      intro h; exact (hT 46 h).2 rfl rfl
  unfold prefixL
  simp only [h0, h1, h2, h2', hB2, hR3]
  simp only [h45]
  rw [if_neg (by rcases hne with h | h <;> simp [h])]
  congr 1
  simp only [List.length_append]; omega
/-- Each text is so made, if there is a number at its beginning. -/
theorem prefix_split (l : List UInt8) : (∀ m : List UInt8, m.dropWhile blk = l.dropWhile blk → prefixL m = (0, 0)) ∨ ∃ bl sg W B T dot, l = bl ++ (sg ++ (W ++ (fr dot B ++ T))) ∧ (∀ c ∈ bl, blk c = true) ∧ (sg = [] ∨ sg = [45] ∨ sg = [43]) ∧ (∀ c ∈ W, isD c = true) ∧ (∀ c ∈ B, isD c = true)
    ∧ (dot = false → B = []) ∧ (W ≠ [] ∨ B ≠ []) ∧ (∀ c, T.head? = some c → isD c = false ∧ (dot = false → c ≠ 46)) := by
  by_cases h : ∃ bl sg W B T dot, l = bl ++ (sg ++ (W ++ (fr dot B ++ T))) ∧ (∀ c ∈ bl, blk c = true) ∧ (sg = [] ∨ sg = [45] ∨ sg = [43]) ∧ (∀ c ∈ W, isD c = true) ∧ (∀ c ∈ B, isD c = true)
    ∧ (dot = false → B = []) ∧ (W ≠ [] ∨ B ≠ []) ∧ (∀ c, T.head? = some c → isD c = false ∧ (dot = false → c ≠ 46))
  · exact .inr h
  · left
    intro m hm
    unfold prefixL
    simp only [hm]
    rw [if_pos]
    apply Classical.byContradiction
    intro hne
    apply h
    have hsp : ∀ r0 : List UInt8, ∃ sg, (sg = [] ∨ sg = [45] ∨ sg = [43]) ∧ r0 = sg ++ (if r0.head? = some 45 ∨ r0.head? = some 43 then r0.drop 1 else r0) := by
      intro r0
      by_cases h1 : r0.head? = some 45 ∨ r0.head? = some 43
      · rw [if_pos h1]
        cases r0 with
        | nil => simp at h1
        | cons a r =>
          simp at h1
          rcases h1 with rfl | rfl
          · exact ⟨[45], by simp, rfl⟩
          · exact ⟨[43], by simp, rfl⟩
      · rw [if_neg h1]; exact ⟨[], by simp, rfl⟩
    obtain ⟨sg, hsg, e1⟩ := hsp (l.dropWhile blk)
    generalize hr1 : (if (l.dropWhile blk).head? = some 45 ∨ (l.dropWhile blk).head? = some 43 then (l.dropWhile blk).drop 1 else l.dropWhile blk) = r1 at *
    have e0 : l = l.takeWhile blk ++ l.dropWhile blk := (List.takeWhile_append_dropWhile).symm
    have e2 : r1 = r1.takeWhile isD ++ r1.dropWhile isD := (List.takeWhile_append_dropWhile).symm
    have hh := dropWhile_head (p := isD) r1
    have hall : ∀ {p : UInt8 → Bool} (l : List UInt8), ∀ c ∈ l.takeWhile p, p c = true := fun l => List.all_eq_true.1 List.all_takeWhile
    generalize hr2 : r1.dropWhile isD = r2 at *
    by_cases h46 : r2.head? = some 46
    · rw [if_pos h46] at hne
      refine ⟨l.takeWhile blk, sg, r1.takeWhile isD, (r2.drop 1).takeWhile isD, (r2.drop 1).dropWhile isD, true, ?_, hall l, hsg, hall r1, hall _, by simp, ?_, ?_⟩
      · conv => lhs; rw [e0, e1, e2]
        congr 3
        simp only [fr, if_true, List.cons_append, List.takeWhile_append_dropWhile]
        cases r2 with
        | nil => simp at h46
        | cons a r => simp at h46; simp [h46]
      · by_cases hw : r1.takeWhile isD = []
        · exact .inr fun hb => hne ⟨hw, hb⟩
        · exact .inl hw
      · intro c hc; exact ⟨dropWhile_head _ c hc, by simp⟩
    · rw [if_neg h46] at hne
      refine ⟨l.takeWhile blk, sg, r1.takeWhile isD, [], r2, false, ?_, hall l, hsg, hall r1, by simp, by simp, ?_, ?_⟩
      · conv => lhs; rw [e0, e1, e2]
        simp [fr]
      · exact .inl fun hw => hne ⟨hw, rfl⟩
      · intro c hc; exact ⟨hh c hc, fun _ => by rintro rfl; exact h46 hc⟩

def looksL (l : List UInt8) : Int × Bool := ((prefixL l).1, decide (0 < (prefixL l).2) && (l.drop (prefixL l).2).all blk)
end Go.Proofs.YtipcanbeegladaaGreatDoor
