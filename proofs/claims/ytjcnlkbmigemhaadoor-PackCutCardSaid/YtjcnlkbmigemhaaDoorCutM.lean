/-
  PLAIN MATHEMATICS: what is cut off lacks bytes: a number, a text, the things of bytes that are cut off.
-/
import Derived.Test.YtjcnlkbmigemhaaDoorPartsM
namespace Go.Proofs.YtjcnlkbmigemhaaDoor
open Go.RowKit

theorem stB_end {s : ByteArray} {i c : Nat} (h : s.size ≤ i) : stB s i c = false := by unfold stB; rw [dif_neg (by omega)]
theorem dgB_end {s : ByteArray} {i : Nat} (h : s.size ≤ i) : dgB s i = false := by unfold dgB; rw [dif_neg (by omega)]
/-- At the end: where it lies. -/
theorem At.size {s : ByteArray} {i : Nat} {l : List UInt8} (h : At s i l) (hi : i ≤ s.size) : i + l.length = s.size := by
  have := congrArg List.length h
  simp at this; omega
theorem sign_end {s : ByteArray} {c : Nat} : signA s s.size 0 c = s.size ∧ signE s s.size 0 c = 2 := by
  unfold signA signE refE
  simp [stB_end (Nat.le_refl s.size)]
theorem sign_stay (s : ByteArray) (i k c : Nat) (hk : k ≠ 0) : signA s i k c = i := by unfold signA; rw [if_pos hk]
/-- A beginning of digits is digits. -/
theorem digits_prefix : ∀ (n : Nat) (L : List UInt8), L <+: Lib.decDigits n → L ≠ [] → ∃ m, m ≤ n ∧ L = Lib.decDigits m := by
  intro n
  induction n using Nat.strongRecOn with
  | ind n ih =>
    intro L h hne
    by_cases h10 : n < 10
    · refine ⟨n, Nat.le_refl _, ?_⟩
      rw [Lib.decDigits_one h10] at h ⊢
      obtain ⟨r, hr⟩ := h
      cases L with
      | nil => exact absurd rfl hne
      | cons a L =>
        simp only [List.cons_append, List.cons.injEq, List.append_eq_nil_iff] at hr
        rw [hr.1, hr.2.1]
    · have e : Lib.decDigits n = Lib.decDigits (n / 10) ++ [UInt8.ofNat (48 + n % 10)] := by rw [Lib.decDigits, dif_neg h10]
      rw [e] at h
      rcases List.prefix_concat_iff.1 h with h1 | h1
      · exact ⟨n, Nat.le_refl _, by rw [e, h1]⟩
      · obtain ⟨m, h2, h3⟩ := ih (n / 10) (by omega) L h1 hne
        exact ⟨m, by omega, h3⟩
/-- A number's digits at the end. -/
theorem dig_end {s : ByteArray} {i n most : Nat} (h : At s i (Lib.decDigits n)) (hm : n ≤ most) (h64 : most ≤ 9223372036854775808) (hi : i ≤ s.size) : dig s i 0 most = (s.size, 0, n) := by
  have hp := decDigits_pos n
  have h19 : (Lib.decDigits n).length ≤ 19 := decDigits_len 18 n (by omega)
  have hz := h.size hi
  have h' : At s i (Lib.decDigits n ++ []) := by simpa using h
  unfold dig
  rw [if_neg (by omega), digP_read s i most n _ _ h' h19 (by omega)]
  obtain ⟨g, hg⟩ : ∃ g, s.size - i + 1 - (Lib.decDigits n).length = g + 1 := ⟨s.size - i - (Lib.decDigits n).length, by omega⟩
  rw [hg, digP, hz, dgB_end (Nat.le_refl _), if_neg (by simp), if_neg (by omega), if_neg (by omega)]
theorem dig_none {s : ByteArray} {most : Nat} : dig s s.size 0 most = (s.size, 2, 0) := by
  unfold dig
  rw [if_neg (by omega), Nat.sub_self, digP, dgB_end (Nat.le_refl _), if_neg (by simp), if_pos rfl]
  simp [refE]
/-- A number that is cut off within its digits, or behind them. -/
theorem num_cut {s : ByteArray} {i : Nat} {n : Int} {L : List UInt8} (h : At s i L) (hi : i ≤ s.size) (hp : L <+: Lib.itoa n) (h0 : -9223372036854775808 ≤ n) (h1 : n ≤ 9223372036854775807) :
    (numP s i 0).1 = s.size ∧ ((numP s i 0).2.1 = 0 ∨ (numP s i 0).2.1 = 2) := by
  have hz := h.size hi
  by_cases hL : L = []
  · subst hL
    obtain rfl : i = s.size := by simpa using hz
    unfold numP
    rw [if_neg (by omega), if_neg (by rw [stB_end (Nat.le_refl _)]; simp), dig_none]
    simp
  · unfold numP
    rw [if_neg (by omega)]
    by_cases hn : n < 0
    · obtain ⟨u, rfl⟩ : ∃ u : Nat, n = -(u : Int) := ⟨n.natAbs, by omega⟩
      rw [Lib.itoa_neg u (by omega)] at hp
      cases L with
      | nil => exact absurd rfl hL
      | cons a L =>
        obtain ⟨r, hr⟩ := hp
        simp only [List.cons_append, List.cons.injEq] at hr
        obtain ⟨rfl, hr⟩ := hr
        have hs : stB s i 45 = true := by rw [At.stB h]; rfl
        have h2 : At s (i + 1) L := At.tail (l := [45]) h
        have hi1 : i + 1 ≤ s.size := by simp at hz; omega
        rw [if_pos hs]
        by_cases hL2 : L = []
        · subst hL2
          have e : i + 1 = s.size := by simpa using hz
          rw [e, if_neg (by rw [stB_end (Nat.le_refl _)]; simp), dig_none]
          simp
        · obtain ⟨m, hm, hm2⟩ := digits_prefix u L ⟨r, hr⟩ hL2
          obtain ⟨d, l, e, hd, hd0⟩ := decDigits_head u
          have hzz : ¬ stB s (i + 1) 48 = true := by
            cases L with
            | nil => exact absurd rfl hL2
            | cons b L =>
              rw [e] at hr
              simp only [List.cons_append, List.cons.injEq] at hr
              rw [At.stB h2, hr.1, digit_nat hd]
              have := hd0 (by omega)
              simp; omega
          rw [if_neg hzz]
          rw [hm2] at h2
          rw [dig_end h2 (by unfold maxInt; omega) (by unfold maxInt; omega) hi1]
          simp
    · obtain ⟨u, rfl⟩ : ∃ u : Nat, n = (u : Int) := ⟨n.toNat, by omega⟩
      rw [Lib.itoa_nonneg] at hp
      obtain ⟨m, hm, hm2⟩ := digits_prefix u L hp hL
      have hs : ¬ stB s i 45 = true := by
        obtain ⟨d, l, e, hd, hd0⟩ := decDigits_head m
        have h3 := h
        rw [hm2, e] at h3
        rw [At.stB h3, digit_nat hd]
        simp; omega
      rw [hm2] at h
      rw [if_neg hs, dig_end h (by unfold maxInt; omega) (by unfold maxInt; omega) hi]
      simp
theorem int_cut {s : ByteArray} {i : Nat} {n : Int} {L : List UInt8} (h : At s i L) (hi : i ≤ s.size) (hp : L <+: intL n) (hne : L ≠ intL n) (h0 : -9223372036854775808 ≤ n) (h1 : n ≤ 9223372036854775807) : (intP s i 0).2.1 = 2 := by
  have hz := h.size hi
  cases L with
  | nil =>
    obtain rfl : i = s.size := by simpa using hz
    unfold intP intP1
    simp only
    rw [(sign_end (s := s) (c := 105)).2, (sign_end (s := s) (c := 105)).1]
    have e : (numP s s.size 2).2.1 = 2 := numP_sticky s _ 2 (by omega)
    rw [e]
    exact sign_sticky s _ 2 59 (by omega)
  | cons a L =>
    have hp' : (a :: L) <+: (105 :: Lib.itoa n) ++ [59] := by simpa [intL] using hp
    rcases List.prefix_concat_iff.1 hp' with h2 | h2
    · exact absurd (by rw [h2]; simp [intL]) hne
    · obtain ⟨r, hr⟩ := h2
      simp only [List.cons_append, List.cons.injEq] at hr
      obtain ⟨rfl, hr⟩ := hr
      have hb : At s (i + 1) L := At.tail (l := [105]) h
      have hi1 : i + 1 ≤ s.size := by simp at hz; omega
      obtain ⟨a1, a2⟩ := sign_read (k := 105) h rfl
      obtain ⟨n1, n2⟩ := num_cut hb hi1 ⟨r, hr⟩ h0 h1
      unfold intP intP1
      simp only
      rw [a1, a2, n1]
      rcases n2 with n2 | n2
      · rw [n2]; exact sign_end.2
      · rw [n2]; exact sign_sticky s _ 2 59 (by omega)
theorem pre_app {α : Type} {L A B : List α} (h : L <+: A ++ B) : L <+: A ∨ ∃ L2, L = A ++ L2 ∧ L2 <+: B := by
  rcases Nat.le_total L.length A.length with h1 | h1
  · exact Or.inl (List.prefix_of_prefix_length_le h (List.prefix_append A B) h1)
  · obtain ⟨L2, rfl⟩ := List.prefix_of_prefix_length_le (List.prefix_append A B) h h1
    exact Or.inr ⟨L2, rfl, (List.prefix_append_right_inj A).1 h⟩
theorem txP_stays (s : ByteArray) (i k most : Nat) (hk : k ≠ 0) : (txP s i k most).1 = i ∧ (txP s i k most).2.1 = k := by
  have hd : dig s i k maxInt = (i, k, 0) := by unfold dig; rw [if_pos hk]
  have e1 : txE1 (i, k, 0) most = k := by unfold txE1; simp [hk]
  have e2 : txE2 s (i, k, 0) most = k := by unfold txE2; rw [e1]; exact sign_sticky _ _ _ _ hk
  have e4 : txA2 s (i, k, 0) most = i := by unfold txA2; rw [e1]; exact sign_stay _ _ _ _ hk
  have e3 : txE3 s (i, k, 0) most = k := by unfold txE3; rw [e2, if_pos hk]
  unfold txP
  rw [hd, e3, if_pos hk, e4]
  exact ⟨rfl, rfl⟩
theorem txp_of {s : ByteArray} {i : Nat} {d : Nat × Nat × Nat} {most e : Nat} (hd : dig s i 0 maxInt = d) (he : txE3 s d most = e) (h0 : e ≠ 0) : (txP s i 0 most).2.1 = e := by
  unfold txP
  rw [hd, he, if_pos h0]
theorem text_cut {s : ByteArray} {i most : Nat} {t L : List UInt8} (h : At s i L) (hi : i ≤ s.size) (hp : L <+: textL t) (hne : L ≠ textL t) (ht : t.length ≤ 100000) : (txP s i 0 most).2.1 ≠ 0 ∧ (t.length ≤ most → (txP s i 0 most).2.1 = 2) := by
  have hz := h.size hi
  by_cases hL : L = []
  · subst hL
    obtain rfl : i = s.size := by simpa using hz
    have e := txp_of (most := most) (e := 2) (dig_none (s := s)) (by
      have x1 : txE1 (s.size, 2, 0) most = 2 := by unfold txE1; simp
      have x2 : txE2 s (s.size, 2, 0) most = 2 := by unfold txE2; rw [x1]; exact sign_sticky _ _ _ _ (by omega)
      unfold txE3; rw [x2]; simp) (by omega)
    rw [e]; exact ⟨by omega, fun _ => rfl⟩
  · have hp2 : L <+: Lib.decDigits t.length ++ (58 :: t) := by unfold textL at hp; rw [Lib.itoa_nonneg] at hp; simpa using hp
    have hne2 : L ≠ Lib.decDigits t.length ++ (58 :: t) := by unfold textL at hne; rw [Lib.itoa_nonneg] at hne; simpa using hne
    rcases pre_app hp2 with h3 | ⟨L2, rfl, h3⟩
    · obtain ⟨m, hm, rfl⟩ := digits_prefix _ _ h3 hL
      have hd := dig_end (most := maxInt) h (by unfold maxInt; omega) (by unfold maxInt; omega) hi
      by_cases hmm : most < m
      · have e := txp_of (most := most) (e := 12) hd (by
          have x1 : txE1 (s.size, 0, m) most = 12 := by unfold txE1; simp [hmm]
          have x2 : txE2 s (s.size, 0, m) most = 12 := by unfold txE2; rw [x1]; exact sign_sticky _ _ _ _ (by omega)
          unfold txE3; rw [x2]; simp) (by omega)
        rw [e]; exact ⟨by omega, fun h => by omega⟩
      · have e := txp_of (most := most) (e := 2) hd (by
          have x1 : txE1 (s.size, 0, m) most = 0 := by unfold txE1; simp [hmm]
          have x2 : txE2 s (s.size, 0, m) most = 2 := by unfold txE2; rw [x1]; exact sign_end.2
          unfold txE3; rw [x2]; simp) (by omega)
        rw [e]; exact ⟨by omega, fun _ => rfl⟩
    · cases L2 with
      | nil =>
        rw [List.append_nil] at h
        have hd := dig_end (most := maxInt) h (by unfold maxInt; omega) (by unfold maxInt; omega) hi
        by_cases hmm : most < t.length
        · have e := txp_of (most := most) (e := 12) hd (by
            have x1 : txE1 (s.size, 0, t.length) most = 12 := by unfold txE1; simp [hmm]
            have x2 : txE2 s (s.size, 0, t.length) most = 12 := by unfold txE2; rw [x1]; exact sign_sticky _ _ _ _ (by omega)
            unfold txE3; rw [x2]; simp) (by omega)
          rw [e]; exact ⟨by omega, fun h => by omega⟩
        · have e := txp_of (most := most) (e := 2) hd (by
            have x1 : txE1 (s.size, 0, t.length) most = 0 := by unfold txE1; simp [hmm]
            have x2 : txE2 s (s.size, 0, t.length) most = 2 := by unfold txE2; rw [x1]; exact sign_end.2
            unfold txE3; rw [x2]; simp) (by omega)
          rw [e]; exact ⟨by omega, fun _ => rfl⟩
      | cons a L2 =>
        obtain ⟨r, hr⟩ := h3
        simp only [List.cons_append, List.cons.injEq] at hr
        obtain ⟨rfl, hr⟩ := hr
        have hlt : L2.length < t.length := by
          rcases Nat.lt_or_ge L2.length t.length with h5 | h5
          · exact h5
          · have h6 := congrArg List.length hr
            simp at h6
            have : r = [] := List.length_eq_zero_iff.1 (by omega)
            subst this
            rw [List.append_nil] at hr
            exact absurd (by rw [hr]) hne2
        have hd := dig_read (most := maxInt) h rfl (by unfold maxInt; omega) (by unfold maxInt; omega)
        have hb := h.tail
        obtain ⟨b1, b2⟩ := sign_read (k := 58) hb rfl
        by_cases hmm : most < t.length
        · have e := txp_of (most := most) (e := 12) hd (by
            have x1 : txE1 (i + (Lib.decDigits t.length).length, 0, t.length) most = 12 := by unfold txE1; simp [hmm]
            have x2 : txE2 s (i + (Lib.decDigits t.length).length, 0, t.length) most = 12 := by unfold txE2; rw [x1]; exact sign_sticky _ _ _ _ (by omega)
            unfold txE3; rw [x2]; simp) (by omega)
          rw [e]; exact ⟨by omega, fun h => by omega⟩
        · have e := txp_of (most := most) (e := 2) hd (by
            have x1 : txE1 (i + (Lib.decDigits t.length).length, 0, t.length) most = 0 := by unfold txE1; simp [hmm]
            have x2 : txA2 s (i + (Lib.decDigits t.length).length, 0, t.length) most = i + (Lib.decDigits t.length).length + 1 := by unfold txA2; rw [x1]; exact b1
            have x3 : txE2 s (i + (Lib.decDigits t.length).length, 0, t.length) most = 0 := by unfold txE2; rw [x1]; exact b2
            unfold txE3
            rw [x2, x3, if_neg (by omega), if_pos (by simp at hz ⊢; omega)]) (by omega)
          rw [e]; exact ⟨by omega, fun _ => rfl⟩

/-- A number or a text that is cut off. -/
structure CutE (s : ByteArray) (i : Nat) (t : Th) : Prop where
  int : t.k = 1 → (intP s i 0).2.1 = 2
  text : t.k = 2 → (txP s i 0 200).2.1 = 2
  skip : i < s.size → (skS s (i, 0, 0)).2.2 ≠ 0
theorem cut_enc {s : ByteArray} {i : Nat} {t : Th} {L : List UInt8} (hk : t.k = 1 ∨ t.k = 2) (hsm : t.small) (h : At s i L) (hi : i ≤ s.size) (hp : L <+: t.enc) (hne : L ≠ t.enc) : CutE s i t := by
  have hz := h.size hi
  rcases hk with hk | hk
  · have e1 : t.enc = intL t.n := by unfold Th.enc; rw [if_pos hk]
    rw [e1] at hp hne
    have hc := int_cut h hi hp hne hsm.1 hsm.2.1
    refine ⟨fun _ => hc, fun h2 => by omega, fun hlt => ?_⟩
    have hs : stB s i 105 = true := by
      cases L with
      | nil => simp at hz; omega
      | cons a L =>
        obtain ⟨r, hr⟩ := hp
        have hr' : a :: (L ++ r) = 105 :: (Lib.itoa t.n ++ [59]) := by simpa [intL] using hr
        injection hr' with hr' _
        rw [At.stB h, hr']; rfl
    unfold skS
    rw [skP]
    simp only
    rw [if_pos hs, hc]
    show (2 : Nat) ≠ 0
    omega
  · have e1 : t.enc = textL t.s.data.toList := by unfold Th.enc; rw [if_neg (by omega), if_pos hk]
    rw [e1] at hp hne
    have hl : t.s.data.toList.length ≤ 200 := by have := hsm.2.2; simpa using this
    refine ⟨fun h2 => by omega, fun _ => (text_cut h hi hp hne (by omega)).2 hl, fun hlt => ?_⟩
    have hc := (text_cut (most := s.size) h hi hp hne (by omega)).1
    have hs : ¬ stB s i 105 = true ∧ ¬ stB s i 40 = true := by
      cases L with
      | nil => simp at hz; omega
      | cons a L =>
        obtain ⟨r, hr⟩ := hp
        obtain ⟨d, l, e, hd, _⟩ := decDigits_head t.s.data.toList.length
        have hr' : a :: (L ++ r) = UInt8.ofNat (48 + d) :: (l ++ 58 :: t.s.data.toList) := by
          unfold textL at hr; rw [Lib.itoa_nonneg, e] at hr; simpa using hr
        injection hr' with hr' _
        rw [At.stB h, At.stB h, hr', digit_nat hd]
        simp; omega
    unfold skS
    rw [skP]
    simp only
    rw [if_neg hs.1, if_neg hs.2]
    exact hc

/-- How many of the first k are whole. -/
def wh (ins : List Th) (cut : Nat) : Nat → Nat
  | 0 => 0
  | k + 1 => if posM ins (k + 1) ≤ cut then wh ins cut k + 1 else wh ins cut k
theorem posM_mono {ins : List Th} {a b : Nat} (h : a ≤ b) (hb : b ≤ ins.length) : posM ins a ≤ posM ins b := by
  induction b with
  | zero => obtain rfl : a = 0 := by omega
            exact Nat.le_refl _
  | succ b ih =>
    rcases Nat.lt_or_ge a (b + 1) with h1 | h1
    · have := ih (by omega) (by omega)
      have h2 := posM_succ (ins := ins) (m := b) (by omega)
      omega
    · obtain rfl : a = b + 1 := by omega
      exact Nat.le_refl _
theorem wh_le (ins : List Th) (cut k : Nat) : wh ins cut k ≤ k := by
  induction k with
  | zero => simp [wh]
  | succ k ih => rw [wh]; split <;> omega
theorem wh_at {ins : List Th} {cut k : Nat} (hk : k ≤ ins.length) : (wh ins cut k = k ∧ posM ins k ≤ cut) ∨ (wh ins cut k < k ∧ posM ins (wh ins cut k) ≤ cut ∧ cut < posM ins (wh ins cut k + 1)) := by
  induction k with
  | zero => exact Or.inl ⟨rfl, by simp [posM, encs]⟩
  | succ k ih =>
    rcases ih (by omega) with ⟨h1, h2⟩ | ⟨h1, h2, h3⟩
    · by_cases h4 : posM ins (k + 1) ≤ cut
      · exact Or.inl ⟨by rw [wh, if_pos h4, h1], h4⟩
      · refine Or.inr ⟨by rw [wh, if_neg h4]; omega, by rw [wh, if_neg h4, h1]; exact h2, by rw [wh, if_neg h4, h1]; omega⟩
    · have h4 : ¬ posM ins (k + 1) ≤ cut := by
        have := posM_mono (ins := ins) (a := wh ins cut k + 1) (b := k + 1) (by omega) hk
        omega
      exact Or.inr ⟨by rw [wh, if_neg h4]; omega, by rw [wh, if_neg h4]; exact h2, by rw [wh, if_neg h4]; exact h3⟩
/-- Bytes of numbers and texts, cut off within the thing m or ahead of it. -/
structure CutS (ins : List Th) (s : ByteArray) (m : Nat) : Prop where
  lt : m < ins.length
  plain : Plain ins
  small : s.size ≤ 100000
  bytes : ∃ L, s.data.toList = encs (ins.take m) ++ L
  cut : ∀ h : m < ins.length, CutE s (posM ins m) ins[m]
theorem cut_is {ins : List Th} {S : ByteArray} {cut : Nat} (hP : Plain ins) (hz : S.size ≤ 100000) (hS : S.data.toList = encs ins) (hc : cut < S.size) : CutS ins (S.extract 0 cut) (wh ins cut ins.length) := by
  have hl : (encs ins).length = S.size := by rw [← hS]; simp
  rcases wh_at (ins := ins) (cut := cut) (k := ins.length) (Nat.le_refl _) with ⟨h1, h2⟩ | ⟨h1, h2, h3⟩
  · have : posM ins ins.length = S.size := by unfold posM; rw [List.take_length]; exact hl
    omega
  · generalize wh ins cut ins.length = m at h1 h2 h3
    rw [posM_succ h1] at h3
    have hd : (S.extract 0 cut).data.toList = encs (ins.take m) ++ ins[m].enc.take (cut - posM ins m) := by
      rw [Lib.extract_data, hS, List.drop_zero, Nat.sub_zero, encs_split h1, List.take_append, List.take_append]
      have e1 : cut - (encs (ins.take m)).length = cut - posM ins m := rfl
      rw [List.take_of_length_le (l := encs (ins.take m)) (by unfold posM at h2; exact h2), e1, show cut - posM ins m - ins[m].enc.length = 0 from by omega]
      simp
    have hsz : (S.extract 0 cut).size = cut := by simp; omega
    refine ⟨h1, hP, by omega, ⟨_, hd⟩, fun h => ?_⟩
    have hA : At (S.extract 0 cut) (posM ins m) (ins[m].enc.take (cut - posM ins m)) := by
      unfold At
      rw [hd]
      exact List.drop_left
    obtain ⟨hk, hsm⟩ := hP _ (List.getElem_mem h1)
    exact cut_enc hk hsm hA (by omega) (List.take_prefix _ _) (fun e => by
      have := congrArg List.length e
      simp at this; omega)
theorem takes_enc {t : Th} (hk : t.k = 1 ∨ t.k = 2) (hsm : t.small) : Takes t.enc := by
  obtain ⟨c, l, e, _⟩ := enc_head hk
  exact ⟨by rw [e]; simp, fun s i R hA hz => skP_enc hk hsm hA⟩
theorem cut_things {ins : List Th} {s : ByteArray} {m : Nat} (h : CutS ins s m) : things s = offs 0 ((ins.take m).map Th.enc) := by
  obtain ⟨L, hL⟩ := h.bytes
  have hf : ((ins.take m).map Th.enc).flatten = encs (ins.take m) := by unfold encs; rw [List.flatMap_def]
  have hA : At s 0 (((ins.take m).map Th.enc).flatten ++ L) := by unfold At; rw [List.drop_zero, hL, hf]
  have hT : ∀ P ∈ (ins.take m).map Th.enc, Takes P := by
    intro P hP
    obtain ⟨t, ht, rfl⟩ := List.mem_map.1 hP
    obtain ⟨hk, hsm⟩ := h.plain t (List.mem_of_mem_take ht)
    exact takes_enc hk hsm
  unfold things
  rw [thL_pieces s h.small L _ 0 (s.size + 1) hT hA (by omega), hf, thL_stop, List.append_nil]
  rintro ⟨h1, h2⟩
  rw [Nat.zero_add] at h1 h2
  exact (h.cut h.lt).skip h1 h2
theorem cut_count {ins : List Th} {s : ByteArray} {m : Nat} (h : CutS ins s m) : (things s).length = m := by
  rw [cut_things h, offs_len, List.length_map, List.length_take]
  have := h.lt
  omega
theorem cut_full {ins : List Th} {s : ByteArray} {m : Nat} (h : CutS ins s m) : ∀ x ∈ things s, x.2.size ≠ 0 := by
  intro x hx
  rw [cut_things h] at hx
  have hx2 : x.2 ∈ ((ins.take m).map Th.enc).map ba := by rw [← offs_snd _ 0]; exact List.mem_map.2 ⟨x, hx, rfl⟩
  obtain ⟨P, hP, e⟩ := List.mem_map.1 hx2
  obtain ⟨t, ht, rfl⟩ := List.mem_map.1 hP
  obtain ⟨hk, _⟩ := h.plain t (List.mem_of_mem_take ht)
  obtain ⟨c, l, e2, _⟩ := enc_head hk
  rw [← e]
  show t.enc.length ≠ 0
  rw [e2]; simp
/-- The state of a Reader of such bytes behind the first k. -/
def St (w : World) (rb : Nat) (s : ByteArray) (ins : List Th) (m k : Nat) : Prop := ∃ i e, i ≤ s.size ∧ Rd w rb s i 0 e ∧ ((k ≤ m ∧ i = posM ins k ∧ e = 0) ∨ (m < k ∧ e = 2))
theorem St.below {w w1 : World} {rb m k : Nat} {s : ByteArray} {ins : List Th} (h : St w rb s ins m k) (hb : Below w.heap.size w w1) : St w1 rb s ins m k := by
  obtain ⟨i, e, h1, h2, h3⟩ := h
  exact ⟨i, e, h1, h2.below hb h2.lt, h3⟩
theorem cut_at {ins : List Th} {s : ByteArray} {m k : Nat} (h : CutS ins s m) (hk : k < m) : ∃ hk' : k < ins.length, ∃ R, At s (posM ins k) (ins[k].enc ++ R) := by
  have hlt := h.lt
  obtain ⟨L, hL⟩ := h.bytes
  have h1 := at_thing (ins := ins.take m) (m := k) hL (by rw [List.length_take]; omega)
  rw [List.take_take, Nat.min_eq_left (by omega), List.getElem_take] at h1
  exact ⟨by omega, _, h1⟩
theorem st_int {w : World} {rb m k : Nat} {s : ByteArray} {ins : List Th} (h : CutS ins s m) (hS : St w rb s ins m k) (hk : k < ins.length) (h1 : ins[k].k = 1) :
    Calls Tryd.prog 16 #[.pointer (some ⟨rb, 0, none⟩)] w fun e w' => (∃ v, e = .returned (.int .i64 v)) ∧ St w' rb s ins m (k + 1) ∧ Only rb w w' := by
  obtain ⟨i, e, hi, hr, hst⟩ := hS
  have hz := h.small
  refine (int_any rb s i 0 e w hr hi (by unfold maxLen; omega)).mono ?_
  rintro e' w' ⟨rfl, hr', ho⟩
  refine ⟨⟨_, rfl⟩, ⟨_, _, intP_le s i e hi, hr', ?_⟩, ho⟩
  rcases hst with ⟨h2, rfl, rfl⟩ | ⟨h2, rfl⟩
  · rcases Nat.lt_or_ge k m with h3 | h3
    · obtain ⟨_, R, hA⟩ := cut_at h h3
      have hsm := (h.plain _ (List.getElem_mem hk)).2
      have e1 : ins[k].enc = intL ins[k].n := by unfold Th.enc; rw [if_pos h1]
      rw [e1] at hA
      rw [int_read hA hsm.1 hsm.2.1]
      exact Or.inl ⟨by omega, by rw [posM_succ hk, e1], rfl⟩
    · obtain rfl : k = m := by omega
      exact Or.inr ⟨by omega, (h.cut hk).int h1⟩
  · exact Or.inr ⟨by omega, intP_sticky s i 2 (by omega)⟩
theorem st_text {w : World} {rb m k : Nat} {s : ByteArray} {ins : List Th} (h : CutS ins s m) (hS : St w rb s ins m k) (hk : k < ins.length) (h1 : ins[k].k = 2) :
    Calls Tryd.prog 17 #[.pointer (some ⟨rb, 0, none⟩), .int .i64 200] w fun e w' => (∃ v, e = .returned (.string v)) ∧ St w' rb s ins m (k + 1) ∧ Only rb w w' := by
  obtain ⟨i, e, hi, hr, hst⟩ := hS
  have hz := h.small
  refine (Text_any rb s i 0 e 200 w hr hi (by omega)).mono ?_
  rintro e' w' ⟨rfl, hr', ho⟩
  refine ⟨⟨_, rfl⟩, ⟨_, _, txP_le s i e 200 hi, hr', ?_⟩, ho⟩
  rcases hst with ⟨h2, rfl, rfl⟩ | ⟨h2, rfl⟩
  · rcases Nat.lt_or_ge k m with h3 | h3
    · obtain ⟨_, R, hA⟩ := cut_at h h3
      have hsm := (h.plain _ (List.getElem_mem hk)).2
      have e1 : ins[k].enc = textL ins[k].s.data.toList := by unfold Th.enc; rw [if_neg (by omega), if_pos h1]
      rw [e1] at hA
      rw [text_read hA hsm.2.2 (by have := hsm.2.2; omega)]
      exact Or.inl ⟨by omega, by rw [posM_succ hk, e1], rfl⟩
    · obtain rfl : k = m := by omega
      exact Or.inr ⟨by omega, (h.cut hk).text h1⟩
  · exact Or.inr ⟨by omega, (txP_stays s i 2 200 (by omega)).2⟩
theorem st_done {w : World} {rb m : Nat} {s : ByteArray} {ins : List Th} (h : CutS ins s m) (hS : St w rb s ins m ins.length) :
    Calls Tryd.prog 18 #[.pointer (some ⟨rb, 0, none⟩)] w fun e w' => e = .returned (.int .i64 2) ∧ Only rb w w' := by
  obtain ⟨i, e, hi, hr, hst⟩ := hS
  have hz := h.small
  have hlt := h.lt
  have e2 : e = 2 := by omega
  subst e2
  refine (done_any rb s i 0 2 w hr hi (by unfold maxLen; omega)).mono ?_
  rintro e' w' ⟨rfl, _, ho⟩
  exact ⟨rfl, ho⟩
end Go.Proofs.YtjcnlkbmigemhaaDoor
