/-
  CONTRACTS of the journal's functions on texts: length, compare, Frame, Open: what each call answers, and that it writes to nothing that was there.
-/
import Derived.Test.YtmlpkimbcjkbkaaGreatDoorSum3
import Derived.Lib.AtoiAll
import Derived.Lib.ItoaMem
import Derived.Lib.IndexMore
import Derived.Test.YtmlpkimbcjkbkaaGreatDoorShelf
import Derived.Lib.AppendIntMem
import Derived.Lib.AtoiErrMem
import Derived.Lib.ItoaLen
namespace Go.Proofs.YtmlpkimbcjkbkaaGreatDoor
open Go.RowKit

theorem index1_no (l : List UInt8) (c : UInt8) (h : c ∉ l) : Lib.index l [c] = -1 := by
  induction l with
  | nil => rfl
  | cons b l ih =>
    have hb : ¬ c = b := fun e => h (by rw [e]; simp)
    have hl : c ∉ l := fun e => h (by simp [e])
    unfold Lib.index
    rw [ih hl]
    simp [List.isPrefixOf, hb]
theorem index1_at (a b : List UInt8) (c : UInt8) (h : c ∉ a) : Lib.index (a ++ c :: b) [c] = a.length := by
  induction a with
  | nil => simp [Lib.index, List.isPrefixOf]
  | cons x a ih =>
    have hx : ¬ c = x := fun e => h (by rw [e]; simp)
    have ha : c ∉ a := fun e => h (by simp [e])
    show Lib.index (x :: (a ++ c :: b)) [c] = _
    unfold Lib.index
    rw [ih ha]
    have : ¬ ((a.length : Int) = -1) := by omega
    simp [List.isPrefixOf, hx, this]
theorem cut1_no (l : List UInt8) (c : UInt8) (h : c ∉ l) : Lib.cut l [c] = (l, [], false) := by
  unfold Lib.cut; rw [index1_no l c h]; rfl
theorem cut1_at (a b : List UInt8) (c : UInt8) (h : c ∉ a) : Lib.cut (a ++ c :: b) [c] = (a, b, true) := by
  unfold Lib.cut
  rw [index1_at a b c h, if_pos (by omega)]
  simp
theorem cut1_cases (l : List UInt8) (c : UInt8) : c ∉ l ∨ ∃ a b, l = a ++ c :: b ∧ c ∉ a := by
  induction l with
  | nil => left; simp
  | cons x l ih =>
    by_cases hx : c = x
    · right; exact ⟨[], l, by simp [hx], by simp⟩
    · rcases ih with h | ⟨a, b, rfl, h⟩
      · left; simp [hx, h]
      · right; exact ⟨x :: a, b, rfl, by simp [hx, h]⟩
/-- Where two texts are parted by their first c, alike. -/
theorem part_uniq {a b x y : List UInt8} {c : UInt8} (ha : c ∉ a) (hx : c ∉ x) (h : a ++ c :: b = x ++ c :: y) : a = x ∧ b = y := by
  have h1 := cut1_at a b c ha
  have h2 := cut1_at x y c hx
  rw [h, h2] at h1
  simp only [Prod.mk.injEq] at h1
  exact ⟨h1.1.symm, h1.2.1.symm⟩

theorem decDigits_mem (n : Nat) : ∀ c ∈ Lib.decDigits n, 48 ≤ c.toNat ∧ c.toNat ≤ 57 := by
  induction n using Nat.strongRecOn with
  | ind n ih =>
    rw [Lib.decDigits]
    have dg (d : Nat) (hd : d < 10) : 48 ≤ (UInt8.ofNat (48 + d)).toNat ∧ (UInt8.ofNat (48 + d)).toNat ≤ 57 := by
      rw [UInt8.toNat_ofNat_of_lt' (by show 48 + d < 256; omega)]; omega
    split
    · rename_i h
      intro c hc
      obtain rfl : c = UInt8.ofNat (48 + n) := by simpa using hc
      exact dg n h
    · rename_i h
      intro c hc
      rcases List.mem_append.1 hc with hc | hc
      · exact ih (n / 10) (by omega) c hc
      · obtain rfl : c = UInt8.ofNat (48 + n % 10) := by simpa using hc
        exact dg _ (Nat.mod_lt _ (by decide))
theorem decDigits_ne (n : Nat) : Lib.decDigits n ≠ [] := by
  rw [Lib.decDigits]; split <;> simp
theorem digits_len (n : Nat) : (Lib.decDigits n).length = if n < 10 then 1 else (Lib.decDigits (n / 10)).length + 1 := by
  rw [Lib.decDigits]; split <;> simp
theorem parse_append (l r : List UInt8) : ∀ a, Lib.parseUint10 a (l ++ r) = match Lib.parseUint10 a l with | .ok b => Lib.parseUint10 b r | .syntax => .syntax | .range => .range := by
  induction l with
  | nil => intro a; rfl
  | cons c l ih =>
    intro a
    simp only [List.cons_append, Lib.parseUint10]
    split
    · split
      · rfl
      · split
        · rfl
        · exact ih _
    · rfl
theorem parse_digit (a d : Nat) (hd : d < 10) (h : a * 10 + d < 18446744073709551616) : Lib.parseUint10 a [UInt8.ofNat (48 + d)] = .ok (a * 10 + d) := by
  have e : (UInt8.ofNat (48 + d)).toNat = 48 + d := UInt8.toNat_ofNat_of_lt' (by show 48 + d < 256; omega)
  simp only [Lib.parseUint10]
  rw [e, if_pos (by omega), if_neg (by omega), show a * 10 + (48 + d - 48) = a * 10 + d from by omega, if_neg (by omega)]
theorem parse_digits (n : Nat) (h : n < 18446744073709551616) : Lib.parseUint10 0 (Lib.decDigits n) = .ok n := by
  induction n using Nat.strongRecOn with
  | ind n ih =>
    rw [Lib.decDigits]
    split
    · rename_i h10
      have := parse_digit 0 n h10 (by omega)
      simpa using this
    · rename_i h10
      rw [parse_append, ih (n / 10) (by omega) (by omega)]
      show Lib.parseUint10 (n / 10) _ = _
      rw [parse_digit (n / 10) (n % 10) (Nat.mod_lt _ (by decide)) (by omega), show n / 10 * 10 + n % 10 = n from by omega]
theorem atoi_digits (n : Nat) (h : n ≤ 9223372036854775807) : Lib.atoiAll (Lib.decDigits n) = .ok (n : Int) := by
  have hm := decDigits_mem n
  have hn := decDigits_ne n
  have hp := parse_digits n (by omega)
  cases hd : Lib.decDigits n with
  | nil => exact absurd hd hn
  | cons c r =>
    have hc := hm c (by rw [hd]; simp)
    rw [hd] at hp
    unfold Lib.atoiAll
    simp only
    rw [if_neg (by omega)]
    unfold Lib.parseMag
    rw [if_neg (by simp), hp]
    simp only
    rw [if_neg (by omega), if_neg (by omega), if_neg (by omega)]
theorem atoi_le {l : List UInt8} {v : Int} (h : Lib.atoiAll l = .ok v) : -9223372036854775808 ≤ v ∧ v ≤ 9223372036854775807 := by
  unfold Lib.atoiAll at h
  split at h
  · cases h
  · simp only at h
    split at h
    · cases h
    · cases h
    · split at h
      · cases h
      · split at h
        · cases h
        · injection h with h
          subst h
          split <;> omega
/-- The number from 0 on that strconv.Itoa writes so. -/
def numV (d : List UInt8) : Option Nat :=
  match Lib.atoiAll d with
  | .ok v => if 0 ≤ v ∧ Lib.itoa v = d then some v.toNat else none
  | _ => none
theorem numV_digits (n : Nat) (h : n ≤ 9223372036854775807) : numV (Lib.decDigits n) = some n := by
  unfold numV
  rw [atoi_digits n h]
  simp only
  rw [if_pos ⟨by omega, Lib.itoa_nonneg n⟩]
  simp
theorem numV_some {d : List UInt8} {n : Nat} (h : numV d = some n) : d = Lib.decDigits n ∧ n ≤ 9223372036854775807 := by
  unfold numV at h
  cases he : Lib.atoiAll d with
  | ok v =>
    rw [he] at h
    simp only at h
    split at h
    · rename_i hv
      injection h with h
      have hb := atoi_le he
      have hv0 : v = (n : Int) := by omega
      rw [hv0, Lib.itoa_nonneg] at hv
      exact ⟨hv.2.symm, by omega⟩
    · cases h
  | _ => rw [he] at h; cases h

def headL : List UInt8 := [115, 99, 114, 105, 98, 101, 32, 49, 32]
/-- The eight digits of a text's sum. -/
def hx (t : List UInt8) : List UInt8 := (hexL (Ad.sum t)).map hexc
theorem hx_len (t : List UInt8) : (hx t).length = 8 := rfl
theorem hexc_lt (n : Nat) (h : n < 16) : hexc n ≠ 10 ∧ hexc n ≠ 32 := by
  have : ∀ n, n < 16 → hexc n ≠ 10 ∧ hexc n ≠ 32 := by decide
  exact this n h
theorem hx_mem (t : List UInt8) : (10 : UInt8) ∉ hx t ∧ (32 : UInt8) ∉ hx t := by
  have hm (a : Nat) := hexc_lt (a % 16) (Nat.mod_lt _ (by decide))
  have h1 (a : Nat) : (10 : UInt8) ≠ hexc (a % 16) := fun e => (hm a).1 e.symm
  have h2 (a : Nat) : (32 : UInt8) ≠ hexc (a % 16) := fun e => (hm a).2 e.symm
  unfold hx hexL
  simp [h1, h2]
def frameL (t : List UInt8) : List UInt8 := headL ++ (Lib.decDigits t.length ++ 32 :: (hx t ++ 10 :: t))

/-- What stands behind the first blank, and behind the line. -/
def bodyL (line t : List UInt8) : List UInt8 × Nat :=
  if (Lib.cut line [32]).2.2 = false then ([], 3) else
  match numV (Lib.cut line [32]).1 with
  | none => ([], 3)
  | some n => if t.length < n then ([], 2) else if n < t.length then ([], 3) else
    if checkV ⟨(Lib.cut line [32]).2.1.toArray⟩ ⟨t.toArray⟩ = 0 then (t, 0) else ([], checkV ⟨(Lib.cut line [32]).2.1.toArray⟩ ⟨t.toArray⟩)
def restL (r : List UInt8) : List UInt8 × Nat := if (Lib.cut r [10]).2.2 = false then ([], 2) else bodyL (Lib.cut r [10]).1 (Lib.cut r [10]).2.1
/-- What a text is opened as, and the error's number. -/
def openL (l : List UInt8) : List UInt8 × Nat :=
  if Lib.hasPrefix headL l = true then ([], 2) else if Lib.hasPrefix l headL = false then ([], 3) else restL (Lib.trimPrefix l headL)

theorem blank_no (n : Nat) : (32 : UInt8) ∉ Lib.decDigits n := fun h => by have := decDigits_mem n _ h; revert this; decide
theorem ten_no (n : Nat) : (10 : UInt8) ∉ Lib.decDigits n := fun h => by have := decDigits_mem n _ h; revert this; decide
theorem line_no (t : List UInt8) (n : Nat) : (10 : UInt8) ∉ Lib.decDigits n ++ 32 :: hx t := by
  intro h
  rcases List.mem_append.1 h with h | h
  · exact ten_no n h
  · rcases List.mem_cons.1 h with h | h
    · revert h; decide
    · exact (hx_mem t).1 h
theorem pre_head (r : List UInt8) : Lib.hasPrefix (headL ++ r) headL = true := by unfold Lib.hasPrefix; simp [List.isPrefixOf_iff_prefix]
theorem trim_head (r : List UInt8) : Lib.trimPrefix (headL ++ r) headL = r := by unfold Lib.trimPrefix; rw [if_pos (pre_head r)]; simp
theorem pre_not (r : List UInt8) (h : r ≠ []) : Lib.hasPrefix headL (headL ++ r) = false := by
  unfold Lib.hasPrefix
  rw [Bool.eq_false_iff]
  intro h2
  have h3 := (List.isPrefixOf_iff_prefix.1 h2).length_le
  have : 0 < r.length := by cases r with | nil => exact absurd rfl h | cons _ _ => simp
  simp at h3; omega
theorem open_head (r : List UInt8) : openL (headL ++ r) = restL r := by
  by_cases h : r = []
  · subst h; rfl
  · unfold openL
    rw [pre_not r h, pre_head, trim_head]
    rfl
theorem rest_no (r : List UInt8) (h : (10 : UInt8) ∉ r) : restL r = ([], 2) := by unfold restL; rw [cut1_no r 10 h]; rfl
theorem rest_at (a t : List UInt8) (h : (10 : UInt8) ∉ a) : restL (a ++ 10 :: t) = bodyL a t := by unfold restL; rw [cut1_at a t 10 h]; rfl
theorem body_no (a t : List UInt8) (h : (32 : UInt8) ∉ a) : bodyL a t = ([], 3) := by unfold bodyL; rw [cut1_no a 32 h]; rfl
theorem body_at (d h t : List UInt8) (hd : (32 : UInt8) ∉ d) : bodyL (d ++ 32 :: h) t =
    match numV d with
    | none => ([], 3)
    | some n => if t.length < n then ([], 2) else if n < t.length then ([], 3) else if checkV ⟨h.toArray⟩ ⟨t.toArray⟩ = 0 then (t, 0) else ([], checkV ⟨h.toArray⟩ ⟨t.toArray⟩) := by
  unfold bodyL; rw [cut1_at d h 32 hd]; rfl
theorem check_hx (t : List UInt8) : checkV ⟨(hx t).toArray⟩ ⟨t.toArray⟩ = 0 := by
  have := check_own ⟨t.toArray⟩
  exact this
theorem check_is {h t : List UInt8} (e : checkV ⟨h.toArray⟩ ⟨t.toArray⟩ = 0) : h = hx t := by
  unfold checkV at e
  split at e
  · omega
  · split at e
    · rename_i e2
      have := congrArg (fun b : ByteArray => b.data.toList) e2
      simpa [hexS, hx] using this
    · omega
theorem open_back (t : List UInt8) (h : t.length ≤ 9223372036854775807) : openL (frameL t) = (t, 0) := by
  unfold frameL
  rw [open_head, show Lib.decDigits t.length ++ 32 :: (hx t ++ 10 :: t) = (Lib.decDigits t.length ++ 32 :: hx t) ++ 10 :: t from by simp, rest_at _ _ (line_no t _), body_at _ _ _ (blank_no _), numV_digits _ h]
  simp [check_hx]
theorem body_one {a t x : List UInt8} (h : bodyL a t = (x, 0)) : a = Lib.decDigits t.length ++ 32 :: hx t ∧ x = t ∧ t.length ≤ 9223372036854775807 := by
  rcases cut1_cases a 32 with hn | ⟨d, e, rfl, hd⟩
  · rw [body_no a t hn] at h; simp at h
  · rw [body_at _ _ _ hd] at h
    cases hv : numV d with
    | none => rw [hv] at h; simp at h
    | some n =>
      rw [hv] at h
      obtain ⟨rfl, hn⟩ := numV_some hv
      simp only at h
      split at h
      · simp at h
      · split at h
        · simp at h
        · split at h
          · rename_i hc
            have hnt : n = t.length := by omega
            subst hnt
            rw [check_is hc]
            simp at h
            exact ⟨rfl, h.symm, hn⟩
          · rename_i hc
            simp only [Prod.mk.injEq] at h
            exact absurd h.2 hc
theorem rest_one {r x : List UInt8} (h : restL r = (x, 0)) : headL ++ r = frameL x ∧ x.length ≤ 9223372036854775807 := by
  rcases cut1_cases r 10 with hn | ⟨a, t, rfl, ha⟩
  · rw [rest_no r hn] at h; simp at h
  · rw [rest_at a t ha] at h
    obtain ⟨rfl, rfl, hl⟩ := body_one h
    exact ⟨by unfold frameL; simp, hl⟩
theorem has_head {l : List UInt8} (h : Lib.hasPrefix l headL = true) : ∃ r, l = headL ++ r := by
  unfold Lib.hasPrefix at h
  obtain ⟨r, hr⟩ := List.isPrefixOf_iff_prefix.1 h
  exact ⟨r, hr.symm⟩
/-- There is one frame of a text: what is opened is it. -/
theorem open_one {l x : List UInt8} (h : openL l = (x, 0)) : l = frameL x ∧ x.length ≤ 9223372036854775807 := by
  by_cases h2 : Lib.hasPrefix l headL = true
  · obtain ⟨r, rfl⟩ := has_head h2
    rw [open_head] at h
    exact rest_one h
  · unfold openL at h
    split at h
    · simp at h
    · rw [if_pos (by simpa using h2)] at h; simp at h
/-- Beside an error nothing. -/
theorem body_err (a t : List UInt8) (h : (bodyL a t).2 ≠ 0) : (bodyL a t).1 = [] := by
  unfold bodyL at h ⊢
  split
  · rfl
  · split
    · rfl
    · split
      · rfl
      · split
        · rfl
        · split
          · rename_i hn1 _ _ hv hn2 hn3 hc
            simp [hn1, hv, hn2, hn3, hc] at h
          · rfl
theorem open_err (l : List UInt8) (h : (openL l).2 ≠ 0) : (openL l).1 = [] := by
  unfold openL at h ⊢
  split
  · rfl
  · split
    · rfl
    · rename_i h1 h2
      rw [if_neg h1, if_neg h2] at h
      unfold restL at h ⊢
      split
      · rfl
      · rename_i h3
        rw [if_neg h3] at h
        exact body_err _ _ h
theorem frame_len (t : List UInt8) : (frameL t).length = 9 + (Lib.decDigits t.length).length + 10 + t.length := by
  unfold frameL headL; simp [hx_len]; omega
/-- A frame that is cut off lacks bytes. -/
theorem open_cut (t : List UInt8) (k : Nat) (ht : t.length ≤ 9223372036854775807) (hk : k < (frameL t).length) : openL ((frameL t).take k) = ([], 2) := by
  by_cases h9 : k < 9
  · have e : (frameL t).take k = headL.take k := by
      unfold frameL; rw [List.take_append_of_le_length (by show k ≤ 9; omega)]
    rw [e]
    unfold openL
    rw [if_pos (by unfold Lib.hasPrefix; exact List.isPrefixOf_iff_prefix.2 (List.take_prefix _ _))]
  · have e : (frameL t).take k = headL ++ ((Lib.decDigits t.length ++ 32 :: hx t) ++ 10 :: t).take (k - 9) := by
      unfold frameL
      rw [List.take_append, List.take_of_length_le (show headL.length ≤ k by show 9 ≤ k; omega)]
      simp [headL]
    rw [e, open_head]
    have hlen := frame_len t
    have hL : (Lib.decDigits t.length ++ 32 :: hx t).length = (Lib.decDigits t.length).length + 9 := by simp [hx_len]
    by_cases h2 : k - 9 ≤ (Lib.decDigits t.length ++ 32 :: hx t).length
    · rw [List.take_append_of_le_length h2]
      exact rest_no _ (fun h => line_no t _ (List.mem_of_mem_take h))
    · obtain ⟨j, hj⟩ : ∃ j, k - 9 - (Lib.decDigits t.length ++ 32 :: hx t).length = j + 1 := ⟨_, (Nat.succ_pred (by omega)).symm⟩
      rw [List.take_append, List.take_of_length_le (by omega), hj, List.take_succ_cons, rest_at _ _ (line_no t _), body_at _ _ _ (blank_no _), numV_digits _ ht]
      simp only
      rw [if_pos (by rw [List.length_take]; omega)]
/-- More bytes make another frame, or none. -/
theorem open_more (t m : List UInt8) (ht : t.length ≤ 9223372036854775807) : (openL (frameL t ++ m)).2 = 0 ↔ m = [] := by
  constructor
  · intro h
    have e : openL (frameL t ++ m) = ((openL (frameL t ++ m)).1, 0) := by rw [← h]
    obtain ⟨e1, hxl⟩ := open_one e
    generalize (openL (frameL t ++ m)).1 = x at e1 hxl
    unfold frameL at e1
    have e2 : Lib.decDigits t.length ++ 32 :: (hx t ++ 10 :: t ++ m) = Lib.decDigits x.length ++ 32 :: (hx x ++ 10 :: x) := by
      have e3 : headL ++ (Lib.decDigits t.length ++ 32 :: (hx t ++ 10 :: t ++ m)) = headL ++ (Lib.decDigits x.length ++ 32 :: (hx x ++ 10 :: x)) := by simpa using e1
      exact List.append_cancel_left e3
    obtain ⟨d1, d2⟩ := part_uniq (blank_no _) (blank_no _) e2
    have hx1 : numV (Lib.decDigits t.length) = numV (Lib.decDigits x.length) := by rw [d1]
    rw [numV_digits _ ht, numV_digits _ hxl] at hx1
    have hl : t.length = x.length := by simpa using hx1
    have h3 := congrArg List.length d2
    simp [hx_len] at h3
    exact List.length_eq_zero_iff.1 (by omega)
  · rintro rfl
    rw [List.append_nil, open_back t ht]
theorem hexc_inj : ∀ a, a < 16 → ∀ b, b < 16 → hexc a = hexc b → a = b := by decide
theorem hexL_inj {x y : Nat} (hx : x < 4294967296) (hy : y < 4294967296) (h : (hexL x).map hexc = (hexL y).map hexc) : x = y := by
  unfold hexL at h
  simp only [List.map_cons, List.map_nil, List.cons.injEq] at h
  obtain ⟨a, b, c, d, e, f, g, i, _⟩ := h
  have m (z : Nat) : z % 16 < 16 := Nat.mod_lt _ (by decide)
  have a := hexc_inj _ (m _) _ (m _) a
  have b := hexc_inj _ (m _) _ (m _) b
  have c := hexc_inj _ (m _) _ (m _) c
  have d := hexc_inj _ (m _) _ (m _) d
  have e := hexc_inj _ (m _) _ (m _) e
  have f := hexc_inj _ (m _) _ (m _) f
  have g := hexc_inj _ (m _) _ (m _) g
  have i := hexc_inj _ (m _) _ (m _) i
  omega
/-- One byte changed: no frame. -/
theorem open_spoilt (t p q : List UInt8) (c d : UInt8) (h : frameL t = p ++ c :: q) (hne : d ≠ c) : (openL (p ++ d :: q)).2 ≠ 0 := by
  intro h0
  have e : openL (p ++ d :: q) = ((openL (p ++ d :: q)).1, 0) := by rw [← h0]
  obtain ⟨e1, hxl⟩ := open_one e
  generalize (openL (p ++ d :: q)).1 = x at e1 hxl
  -- the same length: the same number
  have hlen : (frameL t).length = (frameL x).length := by rw [h, ← e1]; simp
  have hmono : ∀ n m : Nat, n ≤ m → (Lib.decDigits n).length ≤ (Lib.decDigits m).length := by
    intro n m hnm
    induction m using Nat.strongRecOn generalizing n with
    | ind m ih =>
      rw [digits_len n, digits_len m]
      split
      · split <;> omega
      · rw [if_neg (by omega)]
        have := ih (m / 10) (by omega) (n / 10) (by omega)
        omega
  have hl : t.length = x.length := by
    have h1 := frame_len t
    have h2 := frame_len x
    rcases Nat.lt_trichotomy t.length x.length with h3 | h3 | h3
    · have := hmono _ _ (Nat.le_of_lt h3); omega
    · exact h3
    · have := hmono _ _ (Nat.le_of_lt h3); omega
  -- the two frames differ in one place
  have hA : headL ++ (Lib.decDigits t.length ++ [32]) ++ (hx t ++ 10 :: t) = p ++ c :: q := by rw [← h]; unfold frameL; simp
  have hB : headL ++ (Lib.decDigits t.length ++ [32]) ++ (hx x ++ 10 :: x) = p ++ d :: q := by rw [e1]; unfold frameL; simp [hl]
  generalize headL ++ (Lib.decDigits t.length ++ [32]) = H at hA hB
  have one : ∀ (H A B p : List UInt8), H ++ A = p ++ c :: q → H ++ B = p ++ d :: q → ∃ p', A = p' ++ c :: q ∧ B = p' ++ d :: q := by
    intro H
    induction H with
    | nil => intro A B p h1 h2; exact ⟨p, h1, h2⟩
    | cons z H ih =>
      intro A B p h1 h2
      cases p with
      | nil => simp at h1 h2; exact absurd (h2.1.symm.trans h1.1) hne
      | cons y p => simp at h1 h2; exact ih A B p h1.2 h2.2
  obtain ⟨p1, hA1, hB1⟩ := one H _ _ p hA hB
  by_cases hp : p1.length < 8
  · -- in the sum's digits: the texts are one
    have htx : t = x := by
      have l1 : hx t ++ 10 :: t = (p1 ++ [c]) ++ q := by rw [hA1]; simp
      have l2 : hx x ++ 10 :: x = (p1 ++ [d]) ++ q := by rw [hB1]; simp
      have g1 := congrArg (List.drop 9) l1
      have g2 := congrArg (List.drop 9) l2
      have z1 : (hx t ++ 10 :: t).drop 9 = t := by rw [List.drop_append, List.drop_eq_nil_of_le (by rw [hx_len]; omega)]; simp [hx_len]
      have z2 : (hx x ++ 10 :: x).drop 9 = x := by rw [List.drop_append, List.drop_eq_nil_of_le (by rw [hx_len]; omega)]; simp [hx_len]
      rw [z1, List.drop_append, List.drop_eq_nil_of_le (by simp; omega)] at g1
      rw [z2, List.drop_append, List.drop_eq_nil_of_le (by simp; omega)] at g2
      rw [g1, g2]; simp
    rw [← htx, hA1] at hB1
    have := List.append_cancel_left hB1
    simp at this
    exact hne this.symm
  · -- behind: the sums are one
    have two : ∀ (A B : List UInt8), A.length = B.length → ∀ (C D p : List UInt8), A.length ≤ p.length → A ++ C = p ++ c :: q → B ++ D = p ++ d :: q → A = B ∧ ∃ p', C = p' ++ c :: q ∧ D = p' ++ d :: q := by
      intro A
      induction A with
      | nil => intro B hB C D p _ h1 h2; cases B with | nil => exact ⟨rfl, p, h1, h2⟩ | cons _ _ => simp at hB
      | cons a A ih =>
        intro B hB C D p hp h1 h2
        cases B with
        | nil => simp at hB
        | cons b B =>
          cases p with
          | nil => simp at hp
          | cons y p =>
            simp at h1 h2 hB hp
            obtain ⟨e, r⟩ := ih B hB C D p hp h1.2 h2.2
            exact ⟨by rw [h1.1, h2.1, e], r⟩
    obtain ⟨hh, p2, hC, hD⟩ := two (hx t) (hx x) (by rw [hx_len, hx_len]) _ _ p1 (by rw [hx_len]; omega) hA1 hB1
    have hs : Ad.sum t = Ad.sum x := hexL_inj (Ad.sum_lt _) (Ad.sum_lt _) hh
    cases p2 with
    | nil => simp at hC hD; exact hne (hD.1.symm.trans hC.1)
    | cons y p2 =>
      simp at hC hD
      rw [hC.2, hD.2] at hs
      exact hne ((Ad.changed _ _ _ _).1 hs).symm
end Go.Proofs.YtmlpkimbcjkbkaaGreatDoor

namespace Go.Proofs.YtmlpkimbcjkbkaaGreatDoor
open Go.RowKit

/-- What the library's package-level variables hold: the table of powers of ten, some int, two errors. -/
structure Gl (w : World) : Prop where
  tab : Lib.TabBelow Tryz.prog w.heap.size w "internal/strconv.uint64pow10" .u64 Lib.pow10Tab
  ml : ∃ m, w.cell? ⟨1, 0, none⟩ = some (.int .i64 m)
  es : ∃ te pe, w.cell? ⟨3, 0, none⟩ = some (.iface te pe)
  er : ∃ te pe, w.cell? ⟨4, 0, none⟩ = some (.iface te pe)
theorem tab_at {B : Nat} {w w1 : World} (htab : Lib.TabBelow Tryz.prog B w "internal/strconv.uint64pow10" .u64 Lib.pow10Tab) (hb : Below B w w1) (hB : B ≤ w1.heap.size) : Lib.TabBelow Tryz.prog w1.heap.size w1 "internal/strconv.uint64pow10" .u64 Lib.pow10Tab :=
  fun w' h' => htab w' (hb.trans (h'.mono hB))
theorem cell_kept' {B : Nat} {w w1 : World} {g : Nat} {v : Value} (h : w.cell? ⟨g, 0, none⟩ = some v) (hb : Below B w w1) (hB : w.heap.size ≤ B) : w1.cell? ⟨g, 0, none⟩ = some v :=
  (hb.cell (p := ⟨g, 0, none⟩) (Nat.lt_of_lt_of_le (World.block_lt_of_cell? _ _ h) hB)).trans h
theorem Gl.next {w w1 : World} (h : Gl w) (hb : Below w.heap.size w w1) : Gl w1 :=
  ⟨tab_at h.tab hb hb.size, h.ml.imp fun _ e => cell_kept' e hb (Nat.le_refl _), let ⟨a, b, e⟩ := h.es; ⟨a, b, cell_kept' e hb (Nat.le_refl _)⟩, let ⟨a, b, e⟩ := h.er; ⟨a, b, cell_kept' e hb (Nat.le_refl _)⟩⟩
theorem Gl.tabIs {w : World} (h : Gl w) : Lib.TabIs Tryz.prog w "internal/strconv.uint64pow10" .u64 Lib.pow10Tab := h.tab _ (Below.refl _ _)

theorem itoa_below (n : Int) (w : World) (h0 : -9223372036854775808 ≤ n) (h1 : n ≤ 9223372036854775807) (G : Gl w) :
    Calls Tryz.prog 53 #[.int .i64 n] w fun e w' => e = .returned (.string ⟨(Lib.itoa n).toArray⟩) ∧ Below w.heap.size w w' :=
  (Tryz.strconv_Itoa n h0 h1 w G.tabIs).mono fun _ _ ⟨e, k, os, hw⟩ => ⟨e, by rw [hw]; exact Lib.below_grow _ w (Nat.le_refl _) k os⟩

theorem atoi_world {w w1 : World} {T : TypeId} (h : w1 = w ∨ ∃ t, w1 = Lib.bytesWorld w T t) : Below w.heap.size w w1 := by
  rcases h with rfl | ⟨t, rfl⟩
  · exact Below.refl _ _
  · exact Lib.bytesWorld_below _ _ _
set_option maxHeartbeats 1000000 in
/-- A length that is none. -/
theorem length_no (d : ByteArray) (w : World) (hd : d.size ≤ 100000) (h : numV d.data.toList = none) (G : Gl w) :
    Calls Tryz.prog 65 #[.string d] w fun e w' => e = .returned (.tuple #[.int .i64 0, .bool false]) ∧ Below w.heap.size w w' := by
  have h1 : d.size ≤ 9223372036854775806 := by omega
  have h2 : d.size ≤ 281474976710656 := by omega
  cases he : Lib.atoiAll d.data.toList with
  | ok v =>
    have hv := atoi_le he
    unfold numV at h
    rw [he] at h
    have AT := Lib.hid (Tryz.strconv_Atoi_ok d h1 v he w)
    by_cases h0 : v < 0
    · clear h he
      have HG := Lib.hid G
      clear G h1 h2 hd
      go_enter Tryz.func65, Tryz.ntmps65
      go_wp2_with fail
      refine AT.out.mono ?_
      rintro e w1 ⟨rfl, hw⟩
      have HB : Hid (Below w.heap.size w w1) := Lib.hid (atoi_world hw)
      clear hw AT
      go_wp2_with fail
      go_ret2
      exact ⟨rfl, HB.out⟩
    · have hne : ¬ (⟨(Lib.itoa v).toArray⟩ : ByteArray) = d := fun e => by
        have e2 : Lib.itoa v = d.data.toList := by rw [← e]
        simp only at h
        rw [if_pos ⟨by omega, e2⟩] at h
        cases h
      have HN := Lib.hid (bytes_ne hne)
      have h0' : 0 ≤ v := by omega
      clear h he hne
      generalize hid : (⟨(Lib.itoa v).toArray⟩ : ByteArray) = it at HN
      have HI := Lib.hid hid
      have HG := Lib.hid G
      clear G h1 h2 hd hid h0
      go_enter Tryz.func65, Tryz.ntmps65
      go_wp2_with fail
      refine AT.out.mono ?_
      rintro e w1 ⟨rfl, hw⟩
      have HB : Hid (Below w.heap.size w w1) := Lib.hid (atoi_world hw)
      clear hw AT
      go_wp2_with fail
      refine (itoa_below v _ hv.1 hv.2 (HG.out.next HB.out)).mono ?_
      rintro e w2 ⟨rfl, hb2⟩
      have HB2 := Lib.hid (HB.out.trans (hb2.mono HB.out.size))
      rw [HI.out]
      have hn := HN.out
      clear hb2 HB
      go_wp2_with fail
      go_ret2
      exact ⟨rfl, HB2.out⟩
  | range =>
    obtain ⟨te, pe, hev⟩ := G.er
    have AT := Lib.hid (Tryz.strconv_Atoi_range d h2 he _ w hev (Or.inr ⟨te, pe, rfl⟩))
    clear h he G hev h1 h2 hd
    go_enter Tryz.func65, Tryz.ntmps65
    go_wp2_with fail
    refine AT.out.mono ?_
    rintro e w1 ⟨N, rfl, _, _, hb⟩
    have HB := Lib.hid hb
    clear hb AT
    go_wp2_with fail
    go_ret2
    exact ⟨rfl, HB.out⟩
  | _ =>
    obtain ⟨te, pe, hev⟩ := G.es
    have AT := Lib.hid (Tryz.strconv_Atoi_syntax d h2 he _ w hev (Or.inr ⟨te, pe, rfl⟩))
    clear h he G hev h1 h2 hd
    go_enter Tryz.func65, Tryz.ntmps65
    go_wp2_with fail
    refine AT.out.mono ?_
    rintro e w1 ⟨N, rfl, _, _, hb⟩
    have HB := Lib.hid hb
    clear hb AT
    go_wp2_with fail
    go_ret2
    exact ⟨rfl, HB.out⟩
set_option maxHeartbeats 1000000 in
/-- A length. -/
theorem length_yes (d : ByteArray) (n : Nat) (w : World) (hd : d.size ≤ 100000) (h : numV d.data.toList = some n) (G : Gl w) :
    Calls Tryz.prog 65 #[.string d] w fun e w' => e = .returned (.tuple #[.int .i64 n, .bool true]) ∧ Below w.heap.size w w' := by
  obtain ⟨hdd, hn⟩ := numV_some h
  have he : Lib.atoiAll d.data.toList = .ok (n : Int) := by rw [hdd]; exact atoi_digits n hn
  have AT := Lib.hid (Tryz.strconv_Atoi_ok d (by omega) n he w)
  have HI := Lib.hid (show (⟨(Lib.itoa (n : Int)).toArray⟩ : ByteArray) = d from WideShapes.bytes_inj (by rw [hdd, Lib.itoa_nonneg]))
  have HG := Lib.hid G
  clear G he hdd h hd
  go_enter Tryz.func65, Tryz.ntmps65
  go_wp2_with fail
  refine AT.out.mono ?_
  rintro e w1 ⟨rfl, hw⟩
  have HB : Hid (Below w.heap.size w w1) := Lib.hid (atoi_world hw)
  clear hw AT
  go_wp2_with fail
  refine (itoa_below n _ (by omega) (by omega) (HG.out.next HB.out)).mono ?_
  rintro e w2 ⟨rfl, hb2⟩
  have HB2 := Lib.hid (HB.out.trans (hb2.mono HB.out.size))
  rw [HI.out]
  clear hb2 HB
  go_wp2_with fail
  go_ret2
  exact ⟨rfl, HB2.out⟩

theorem compare_any (a n : Nat) (w : World) :
    Calls Tryz.prog 66 #[.int .i64 a, .int .i64 n] w fun e w' => e = .returned (.int .i64 (if a < n then 2 else if n < a then 3 else 0)) ∧ w = w' := by
  rcases Nat.lt_trichotomy a n with h | h | h
  · rw [if_pos h]
    go_enter Tryz.func66, Tryz.ntmps66
    go_wp2
    go_ret
    exact ⟨rfl, rfl⟩
  · subst h
    rw [if_neg (Nat.lt_irrefl _)]
    go_enter Tryz.func66, Tryz.ntmps66
    go_wp2
    go_ret
    exact ⟨rfl, rfl⟩
  · rw [if_neg (by omega), if_pos h]
    have h1 : ¬ a < n := by omega
    go_enter Tryz.func66, Tryz.ntmps66
    go_wp2
    go_ret
    exact ⟨rfl, rfl⟩
end Go.Proofs.YtmlpkimbcjkbkaaGreatDoor
