/-
  MATHEMATICS of layer 7's laws: plain texts, formats of two parts, widths, places, values that are wanting.
-/
import Derived.Test.YtipcanbeegladaaGreatDoorFmtM
import Derived.Lib.ItoaLen
namespace Go.Proofs.YtipcanbeegladaaGreatDoor
open Go.Lib

theorem printL_txt (l b : List UInt8) (h : ∀ c ∈ l, c ≠ 37) : ∀ out vs, printL (l ++ b) out vs = printL b (out ++ l) vs := by
  induction l with
  | nil => intro out vs; simp
  | cons c l ih =>
    intro out vs
    rw [List.cons_append, printL_cons, if_pos (h c (by simp)), ih (fun c hc => h c (List.mem_cons_of_mem _ hc))]
    simp
theorem printL_plain (l : List UInt8) (h : ∀ c ∈ l, c ≠ 37) (vs : List Va) (hl : l.length ≤ 4000) : printL l [] vs = (l, 0) := by
  have := printL_txt l [] h [] vs
  rw [List.append_nil, List.nil_append] at this
  rw [this, printL_nil, if_neg (by omega)]

/-! A format that goes on. -/
theorem takeW_app {p : UInt8 → Bool} {l : List UInt8} (b : List UInt8) (h : l.dropWhile p ≠ []) : (l ++ b).takeWhile p = l.takeWhile p ∧ (l ++ b).dropWhile p = l.dropWhile p ++ b := by
  induction l with
  | nil => simp at h
  | cons c l ih =>
    rw [List.cons_append, List.takeWhile_cons, List.takeWhile_cons, List.dropWhile_cons, List.dropWhile_cons]
    rw [List.dropWhile_cons] at h
    by_cases hc : p c = true
    · rw [if_pos hc] at h
      simp only [hc, if_true]
      obtain ⟨h1, h2⟩ := ih h
      rw [h1, h2]; exact ⟨rfl, rfl⟩
    · simp only [hc]; exact ⟨by simp, by simp⟩
theorem dropW_ne {p : UInt8 → Bool} {l : List UInt8} (h : l.dropWhile p ≠ []) : l ≠ [] := by rintro rfl; simp at h
theorem dotL_app {l : List UInt8} (b : List UInt8) (h : l ≠ []) : dotL (l ++ b) = dotL l := by
  cases l with
  | nil => exact absurd rfl h
  | cons c l => rfl
theorem conv_app {r : List UInt8} (b : List UInt8) (h : cR2 r ≠ []) : cvOf (r ++ b) = cvOf r ∧ cvT (r ++ b) = cvT r ++ b ∧ cvE (r ++ b) = cvE r := by
  have h1 : cR1 r ≠ [] := by
    intro he; unfold cR2 at h; rw [he] at h; exact h (by simp [dotL])
  have h0 : restF r ≠ [] := dropW_ne h1
  obtain ⟨f1, f2⟩ := takeW_app b h0
  have f2' : restF (r ++ b) = restF r ++ b := f2
  obtain ⟨g1, g2⟩ := takeW_app b h1
  have e1 : cR1 (r ++ b) = cR1 r ++ b := by unfold cR1; rw [f2']; exact g2
  have eW : cW (r ++ b) = cW r := by unfold cW; rw [f2', g1]
  have ed := dotL_app b h1
  have e2 : cR2 (r ++ b) = cR2 r ++ b ∧ cP (r ++ b) = cP r := by
    unfold cR2 cP
    rw [e1, ed]
    unfold cR2 at h
    by_cases hd : dotL (cR1 r) = true
    · simp only [hd, if_true] at h ⊢
      have hx : (cR1 r ++ b).drop 1 = (cR1 r).drop 1 ++ b := by
        cases hq : cR1 r with
        | nil => exact absurd hq h1
        | cons c l => rfl
      rw [hx]
      obtain ⟨k1, k2⟩ := takeW_app b h
      rw [k1, k2]; exact ⟨rfl, rfl⟩
    · simp only [hd]; exact ⟨by simp, by simp⟩
  obtain ⟨e2, eP⟩ := e2
  have hF : ∀ c, hasF (r ++ b) c = hasF r c := fun c => by unfold hasF; rw [f1]
  have hH : (cR2 r ++ b).headD 0 = (cR2 r).headD 0 ∧ (cR2 r ++ b).head? = (cR2 r).head? ∧ (cR2 r ++ b).drop 1 = (cR2 r).drop 1 ++ b := by
    cases hq : cR2 r with
    | nil => exact absurd hq h
    | cons c l => exact ⟨rfl, rfl, rfl⟩
  refine ⟨?_, ?_, ?_⟩
  · unfold cvOf; rw [hF, hF, hF, hF, eW, eP, e1, ed, e2, hH.1]
  · unfold cvT; rw [e2, hH.2.2]
  · unfold cvE; rw [eW, eP, e2, hH.2.1]
theorem cvE_ok {r : List UInt8} (h : cvE r = 0) : cR2 r ≠ [] ∧ cW r ≤ 1000 ∧ cP r ≤ 1000 ∧ (cvOf r).kind ∈ kindL ∧ (cvOf r).kind ∈ cR2 r := by
  unfold cvE at h
  split at h
  · cases h
  · rename_i hw
    split at h
    · rename_i hk
      cases hq : cR2 r with
      | nil => rw [hq] at hk; simp at hk
      | cons c l =>
        rw [hq] at hk
        have : (cvOf r).kind = c := by unfold cvOf; rw [hq]; rfl
        rw [this]
        exact ⟨by simp, by omega, by omega, by simpa using hk, by simp⟩
    · cases h
theorem cR2_sub (r : List UInt8) : ∀ c ∈ cR2 r, c ∈ r := by
  intro c hc
  have h1 : ∀ c ∈ cR1 r, c ∈ r := fun c hc => (List.dropWhile_sublist _).subset ((List.dropWhile_sublist _).subset hc)
  unfold cR2 at hc
  split at hc
  · exact h1 c (List.mem_of_mem_drop ((List.dropWhile_sublist _).subset hc))
  · exact h1 c hc
/-- One conversion of a value, and plain text behind it. -/
theorem part_one {r : List UInt8} (h37 : ∀ c ∈ r, c ≠ 37) (hE : cvE r = 0) (b out : List UInt8) (vs : List Va) :
    printL (37 :: r ++ b) out vs = if 4000 < (out ++ oneL (cvOf r) (vs.headD noneV)).length then ([], 12) else printL b (out ++ oneL (cvOf r) (vs.headD noneV) ++ cvT r) vs.tail := by
  obtain ⟨h2, _, _, hk, hm⟩ := cvE_ok hE
  obtain ⟨a1, a2, a3⟩ := conv_app b h2
  have hk37 : (cvOf r).kind ≠ 37 := h37 _ (cR2_sub r _ hm)
  rw [List.cons_append, printL_cons, if_neg (by simp), a3, if_neg (by simp [hE]), a1, if_neg hk37, a2]
  rw [printL_txt (cvT r) b (fun c hc => h37 c (cR2_sub r c (List.mem_of_mem_drop hc)))]
theorem part_err {r : List UInt8} (hE : cvE r ≠ 0) (out : List UInt8) (vs : List Va) : printL (37 :: r) out vs = ([], cvE r) := by
  rw [printL_cons, if_neg (by simp), if_pos hE]

/-! How long a value is. -/
theorem fillL_len (c : Cv) (sg b : List UInt8) : (fillL c sg b).length = max c.width (sg.length + b.length) := by
  unfold fillL
  split
  · simp; omega
  · split <;> (simp; omega)
theorem dec_len20 (n : Nat) (h : n < 18446744073709551616) : (decDigits n).length ≤ 20 := by rw [decDigits_length]; exact nDigits_le20 n h
theorem hexN_len : ∀ f u, (hexN f u).length ≤ f
  | 0, _ => by simp [hexN]
  | f + 1, u => by
    unfold hexN; split
    · simp
    · have := hexN_len f (u / 16); simp; omega
theorem natL_len (c : Cv) (n : Nat) (h : n < 18446744073709551616) : (natL c n).length ≤ 20 := by
  unfold natL
  split
  · simp
  · split
    · have := hexN_len 17 n; unfold hexL; omega
    · exact dec_len20 n h
theorem placesL_len (c : Cv) (n : Int) (h : n.natAbs < 18446744073709551616) : (placesL c n).length ≤ 21 + wantP c := by
  unfold placesL
  have := dec_len20 (n.natAbs / 1000000) (by omega)
  rw [List.length_append]
  split
  · simp; omega
  · simp only [List.length_cons, List.length_take]; omega
theorem signL_len (c : Cv) (b : Bool) : (signL c b).length ≤ 1 := by unfold signL; split <;> (try split) <;> (try split) <;> simp
/-- A value of a modest size. -/
def SmallV (v : Va) : Prop := v.s.length ≤ 100 ∧ v.n.natAbs < 18446744073709551616
theorem oneL_len (c : Cv) (v : Va) (hw : c.width ≤ 1000) (hp : c.prec ≤ 1000) (hv : SmallV v) : (oneL c v).length ≤ 1022 := by
  obtain ⟨hs, hn⟩ := hv
  have hd : (v.n.tdiv 1000000).natAbs < 18446744073709551616 := by rw [Int.natAbs_tdiv]; exact Nat.lt_of_le_of_lt (Nat.div_le_self _ _) hn
  unfold oneL
  split
  · rw [fillL_len]
    have : (strL c v).length ≤ 100 := by unfold strL; split <;> first | exact hs | (simp; omega)
    simp; omega
  · split
    · rw [fillL_len]
      have : (charL v).length ≤ 1 := by unfold charL; split <;> (simp; try omega)
      simp; omega
    · split
      · rw [fillL_len]
        have h1 := signL_len c (decide (v.n < 0))
        have h2 := placesL_len c v.n hn
        have h3 : wantP c ≤ 1000 := by unfold wantP; split <;> omega
        omega
      · rw [fillL_len]
        have h1 := signL_len c (decide (v.n.tdiv 1000000 < 0))
        have h2 := natL_len c _ hd
        have h3 : (digitsL c (v.n.tdiv 1000000)).length ≤ 1000 := by
          unfold digitsL; rw [List.length_append, List.length_replicate]
          have : (if c.precise then c.prec else 1) ≤ 1000 := by split <;> omega
          omega
        omega
/-- A format of two parts. -/
theorem parts_both {r q : List UInt8} (x y : Va) (hr : ∀ c ∈ r, c ≠ 37) (hq : ∀ c ∈ q, c ≠ 37) (lr : r.length ≤ 11) (lq : q.length ≤ 11) (hx : SmallV x) (hy : SmallV y)
    (s t : List UInt8) (h1 : printL (37 :: r) [] [x] = (s, 0)) (h2 : printL (37 :: q) [] [y] = (t, 0)) : printL (37 :: r ++ 37 :: q) [] [x, y] = (s ++ t, 0) := by
  have E1 : cvE r = 0 := by
    by_cases h : cvE r = 0
    · exact h
    · rw [part_err h] at h1; exact absurd (congrArg Prod.snd h1) h
  have E2 : cvE q = 0 := by
    by_cases h : cvE q = 0
    · exact h
    · rw [part_err h] at h2; exact absurd (congrArg Prod.snd h2) h
  have b1 := oneL_len (cvOf r) x (cvE_ok E1).2.1 (cvE_ok E1).2.2.1 hx
  have b2 := oneL_len (cvOf q) y (cvE_ok E2).2.1 (cvE_ok E2).2.2.1 hy
  have t1 := cvT_len r
  have t2 := cvT_len q
  have p1 := part_one hr E1 [] [] [x]
  have p2 := part_one hq E2 [] [] [y]
  rw [List.append_nil] at p1 p2
  rw [if_neg (by show ¬ 4000 < (oneL (cvOf r) x).length; omega), printL_nil, if_neg (by show ¬ 4000 < (oneL (cvOf r) x ++ cvT r).length; simp; omega)] at p1
  rw [if_neg (by show ¬ 4000 < (oneL (cvOf q) y).length; omega), printL_nil, if_neg (by show ¬ 4000 < (oneL (cvOf q) y ++ cvT q).length; simp; omega)] at p2
  rw [p1] at h1
  rw [p2] at h2
  have hs : oneL (cvOf r) x ++ cvT r = s := congrArg Prod.fst h1
  have ht : oneL (cvOf q) y ++ cvT q = t := congrArg Prod.fst h2
  rw [part_one hr E1, if_neg (by show ¬ 4000 < (oneL (cvOf r) x).length; omega)]
  have p3 := part_one hq E2 [] (oneL (cvOf r) x ++ cvT r) [y]
  rw [List.append_nil, if_neg (by show ¬ 4000 < (oneL (cvOf r) x ++ cvT r ++ oneL (cvOf q) y).length; simp; omega), printL_nil, if_neg (by show ¬ 4000 < (oneL (cvOf r) x ++ cvT r ++ oneL (cvOf q) y ++ cvT q).length; simp; omega)] at p3
  refine p3.trans ?_
  rw [← hs, ← ht]
  simp

/-! Widths. -/
def plainC (k : UInt8) : Cv := ⟨false, false, false, false, 0, 0, false, k⟩
def wideC (l z : Bool) (w : Nat) (k : UInt8) : Cv := ⟨l, z, false, false, w, 0, false, k⟩
theorem wide_len (l z : Bool) (w : Nat) (k : UInt8) (v : Va) : (oneL (wideC l z w k) v).length = max w (oneL (plainC k) v).length := by
  have e : ∀ sg b : List UInt8, (fillL (wideC l z w k) sg b).length = max w (fillL (plainC k) sg b).length := fun sg b => by
    rw [fillL_len, fillL_len]; show max w _ = max w (max 0 _); omega
  unfold oneL
  show (if k = 115 then fillL (wideC l z w k) [] (strL (plainC k) v) else if k = 99 then fillL (wideC l z w k) [] (charL v) else if k = 102 then fillL (wideC l z w k) (signL (plainC k) (decide (v.n < 0))) (placesL (plainC k) v.n) else fillL (wideC l z w k) (signL (plainC k) (decide (v.n.tdiv 1000000 < 0))) (digitsL (plainC k) (v.n.tdiv 1000000))).length
    = max w (if k = 115 then fillL (plainC k) [] (strL (plainC k) v) else if k = 99 then fillL (plainC k) [] (charL v) else if k = 102 then fillL (plainC k) (signL (plainC k) (decide (v.n < 0))) (placesL (plainC k) v.n) else fillL (plainC k) (signL (plainC k) (decide (v.n.tdiv 1000000 < 0))) (digitsL (plainC k) (v.n.tdiv 1000000))).length
  split
  · exact e _ _
  · split
    · exact e _ _
    · split
      · exact e _ _
      · exact e _ _
end Go.Proofs.YtipcanbeegladaaGreatDoor
