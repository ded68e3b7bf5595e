/-
  MATHEMATICS of layer 16: where blanks part a text its fields hang on its bytes alone; blanks more change none.
-/
import Derived.Test.YtllbnbnpcogckaaGreatDoorInM2
import Derived.Lib.MapLaws
import Derived.Lib.DecodeN
namespace Go.Proofs.YtllbnbnpcogckaaGreatDoor
open Go.RowKit Go.Lib

def ibk (c : UInt8) : Bool := isB c.toNat
/-- The words of a text: the bytes so far of the one that is open, the bytes left. -/
def wordsL : List UInt8 → List UInt8 → List (List UInt8)
  | cur, [] => if cur = [] then [] else [cur]
  | cur, c :: l => if ibk c then (if cur = [] then wordsL [] l else cur :: wordsL [] l) else wordsL (cur ++ [c]) l
theorem wl_cons (cur : List UInt8) (c : UInt8) (l : List UInt8) : wordsL cur (c :: l) = if ibk c then (if cur = [] then wordsL [] l else cur :: wordsL [] l) else wordsL (cur ++ [c]) l := by rw [wordsL]
theorem wl_nil (cur : List UInt8) : wordsL cur [] = if cur = [] then [] else [cur] := by rw [wordsL]
theorem words_run : ∀ (x cur l : List UInt8), (∀ c ∈ x, ibk c = false) → wordsL cur (x ++ l) = wordsL (cur ++ x) l
  | [], cur, l, _ => by simp
  | c :: x, cur, l, h => by
    show wordsL cur (c :: (x ++ l)) = _
    rw [wordsL, if_neg (by rw [h c (by simp)]; decide), words_run x (cur ++ [c]) l (fun d hd => h d (List.mem_cons_of_mem _ hd))]
    simp
theorem words_skip : ∀ (x l : List UInt8), (∀ c ∈ x, ibk c = true) → wordsL [] (x ++ l) = wordsL [] l
  | [], _, _ => rfl
  | c :: x, l, h => by
    show wordsL [] (c :: (x ++ l)) = _
    rw [wordsL, if_pos (h c (by simp)), if_pos rfl]
    exact words_skip x l (fun d hd => h d (List.mem_cons_of_mem _ hd))
theorem words_end (x cur : List UInt8) (h : ∀ c ∈ x, ibk c = true) : wordsL cur x = wordsL cur [] := by
  cases x with
  | nil => rfl
  | cons c x =>
    rw [wl_cons, if_pos (h c (by simp)), wl_nil]
    have h2 : wordsL [] x = [] := by
      have := words_skip x [] (fun d hd => h d (List.mem_cons_of_mem _ hd))
      rw [List.append_nil] at this
      rw [this]; rfl
    rw [h2]
/-- A text with blanks behind each of its blanks of one kind. -/
def padL (b : List UInt8) : List UInt8 → List UInt8
  | [] => []
  | c :: l => (if c = 32 then c :: b else [c]) ++ padL b l
theorem padL_append (b : List UInt8) : ∀ x y, padL b (x ++ y) = padL b x ++ padL b y
  | [], _ => rfl
  | c :: x, y => by
    show (if c = 32 then c :: b else [c]) ++ padL b (x ++ y) = _
    rw [padL_append b x y, padL, List.append_assoc]
theorem words_pad (b : List UInt8) (hb : ∀ c ∈ b, ibk c = true) : ∀ (l cur : List UInt8), wordsL cur (padL b l ++ b) = wordsL cur l
  | [], cur => words_end b cur hb
  | c :: l, cur => by
    rw [padL, List.append_assoc]
    by_cases hc : c = 32
    · rw [if_pos hc, hc]
      show wordsL cur (32 :: (b ++ (padL b l ++ b))) = _
      have h32 : ibk 32 = true := by decide
      rw [wl_cons cur 32 (b ++ (padL b l ++ b)), if_pos h32, wl_cons cur 32 l, if_pos h32, words_skip b _ hb, words_pad b hb l []]
    · rw [if_neg hc]
      show wordsL cur (c :: (padL b l ++ b)) = _
      rw [wl_cons, wl_cons, words_pad b hb l [], words_pad b hb l (cur ++ [c])]
theorem words_all (b : List UInt8) (hb : ∀ c ∈ b, ibk c = true) (l : List UInt8) : wordsL [] (b ++ padL b l ++ b) = wordsL [] l := by
  rw [List.append_assoc, words_skip b _ hb, words_pad b hb]

/-! The library's fields. -/
theorem get_list (s : ByteArray) (i : Nat) (h : i < s.size) : s.data.toList[i]? = some (s.get! i) := by
  rw [List.getElem?_eq_getElem (by rw [ba_sz]; exact h)]
  congr 1
  show s.data.toList[i] = s.data[i]!
  have hd : i < s.data.size := h
  rw [getElem!_pos s.data i hd]
  rfl
theorem ibk_hi {c : UInt8} (h : 128 ≤ c.toNat) : ibk c = false := by
  unfold ibk isB
  have h1 : ¬ c.toNat = 32 := by omega
  have h2 : ¬ c.toNat = 9 := by omega
  have h3 : ¬ c.toNat = 10 := by omega
  simp [h1, h2, h3]
theorem isB_hi {x : Nat} (h : 128 ≤ x) : isB x = false := by
  unfold isB
  have h1 : ¬ x = 32 := by omega
  have h2 : ¬ x = 9 := by omega
  have h3 : ¬ x = 10 := by omega
  simp [h1, h2, h3]
/-- One rune: so many bytes; a blank is one byte; of another one no byte is a blank. -/
theorem rune_step (s : ByteArray) (pos : Nat) (h : pos < s.size) :
    1 ≤ (Utf8.decode s pos).2 ∧ pos + (Utf8.decode s pos).2 ≤ s.size ∧
    (isB (Utf8.decode s pos).1 = true → (Utf8.decode s pos).2 = 1 ∧ ibk (s.get! pos) = true) ∧
    (isB (Utf8.decode s pos).1 = false → ∀ j, j < (Utf8.decode s pos).2 → ibk (s.get! (pos + j)) = false) := by
  rw [decode_at]
  by_cases h0 : (s.get! pos).toNat < 128
  · have e : decodeN (s.size - pos) (s.get! pos).toNat (s.get! (pos + 1)).toNat (s.get! (pos + 2)).toNat (s.get! (pos + 3)).toNat = ((s.get! pos).toNat, 1) := by
      unfold decodeN; rw [if_pos h0]
    rw [e]
    refine ⟨Nat.le_refl _, by simp only; omega, fun h1 => ⟨rfl, by simpa [ibk] using h1⟩, fun h1 j hj => ?_⟩
    obtain rfl : j = 0 := by simp only at hj; omega
    simpa [ibk] using h1
  · have hb0 : ibk (s.get! pos) = false := ibk_hi (by omega)
    rcases decodeN_shape (s.size - pos) (s.get! pos).toNat (s.get! (pos + 1)).toNat (s.get! (pos + 2)).toNat (s.get! (pos + 3)).toNat with ⟨h1, _⟩ | ⟨_, h2, h3, h4, e⟩ | ⟨_, h2, h3, h4, h5, _, e⟩ | ⟨_, h2, h3, h4, h5, h6, _, e⟩ | e
    · exact absurd h1 h0
    all_goals rw [e]
    · refine ⟨by simp only; omega, by simp only; omega, fun h7 => ?_, fun _ j hj => ?_⟩
      · rw [isB_hi (by simp only; omega)] at h7; cases h7
      · simp only at hj
        obtain rfl | rfl : j = 0 ∨ j = 1 := by omega
        · exact hb0
        · exact ibk_hi (by omega)
    · refine ⟨by simp only; omega, by simp only; omega, fun h7 => ?_, fun _ j hj => ?_⟩
      · rw [isB_hi (by simp only; omega)] at h7; cases h7
      · simp only at hj
        obtain rfl | rfl | rfl : j = 0 ∨ j = 1 ∨ j = 2 := by omega
        · exact hb0
        · exact ibk_hi (by omega)
        · exact ibk_hi (by omega)
    · refine ⟨by simp only; omega, by simp only; omega, fun h7 => ?_, fun _ j hj => ?_⟩
      · rw [isB_hi (by simp only; omega)] at h7; cases h7
      · simp only at hj
        obtain rfl | rfl | rfl | rfl : j = 0 ∨ j = 1 ∨ j = 2 ∨ j = 3 := by omega
        · exact hb0
        · exact ibk_hi (by omega)
        · exact ibk_hi (by omega)
        · exact ibk_hi (by omega)
    · refine ⟨by simp only; omega, by simp only; omega, fun h7 => ?_, fun _ j hj => ?_⟩
      · rw [isB_hi (by simp only; omega)] at h7; cases h7
      · simp only at hj
        obtain rfl : j = 0 := by omega
        exact hb0
def curL (l : List UInt8) (st : Option Nat) (pos : Nat) : List UInt8 :=
  match st with
  | none => []
  | some a => (l.drop a).take (pos - a)
theorem fields_words (s : ByteArray) : ∀ (f pos : Nat) (st : Option Nat) (acc : List (Nat × Nat)), s.size - pos ≤ f → pos ≤ s.size → (∀ a, st = some a → a < pos) →
    (closeSpans s (spansFromP isB s f pos st acc)).map (fun x => (s.extract x.1 x.2).data.toList) = acc.map (fun x => (s.extract x.1 x.2).data.toList) ++ wordsL (curL s.data.toList st pos) (s.data.toList.drop pos) := by
  have hend : ∀ (pos : Nat) (st : Option Nat) (acc : List (Nat × Nat)), pos = s.size → (∀ a, st = some a → a < pos) →
      (closeSpans s (acc, st)).map (fun x => (s.extract x.1 x.2).data.toList) = acc.map (fun x => (s.extract x.1 x.2).data.toList) ++ wordsL (curL s.data.toList st pos) (s.data.toList.drop pos) := by
    intro pos st acc hp ha
    rw [hp, List.drop_of_length_le (by rw [ba_sz]; exact Nat.le_refl _), wordsL]
    cases st with
    | none => simp [closeSpans, curL]
    | some a =>
      have h1 := ha a rfl
      have h2 : curL s.data.toList (some a) s.size = (s.extract a s.size).data.toList := by
        rw [extract_data]; rfl
      rw [h2]
      have h3 : (s.extract a s.size).data.toList ≠ [] := by
        intro h4
        have h5 := ba_sz (s.extract a s.size)
        rw [h4] at h5
        simp at h5
        omega
      rw [if_neg h3]
      simp [closeSpans]
  intro f
  induction f with
  | zero =>
    intro pos st acc hf hp ha
    exact hend pos st acc (by omega) ha
  | succ f ih =>
    intro pos st acc hf hp ha
    unfold spansFromP
    by_cases hlt : pos < s.size
    · rw [if_pos hlt]
      obtain ⟨h1, h2, h3, h4⟩ := rune_step s pos hlt
      have hcons : s.data.toList.drop pos = s.get! pos :: s.data.toList.drop (pos + 1) := by
        have hl : pos < s.data.toList.length := by rw [ba_sz]; exact hlt
        rw [List.drop_eq_getElem_cons hl]
        have := get_list s pos hlt
        rw [List.getElem?_eq_getElem hl] at this
        rw [Option.some.inj this]
      cases hb : isB (Utf8.decode s pos).1 with
      | true =>
        obtain ⟨h5, h6⟩ := h3 hb
        rw [if_pos rfl, h5, hcons]
        cases st with
        | none =>
          simp only
          rw [ih (pos + 1) none acc (by omega) (by omega) (fun a h => by cases h)]
          show _ ++ wordsL [] _ = _ ++ wordsL [] _
          rw [wordsL, if_pos h6, if_pos rfl]
        | some a =>
          have h7 := ha a rfl
          simp only
          rw [ih (pos + 1) none (acc ++ [(a, pos)]) (by omega) (by omega) (fun a h => by cases h)]
          rw [List.map_append, List.append_assoc]
          congr 1
          have h8 : curL s.data.toList (some a) pos = (s.extract a pos).data.toList := by rw [extract_data]; rfl
          have h9 : (s.extract a pos).data.toList ≠ [] := by
            intro h4
            have h5 := ba_sz (s.extract a pos)
            rw [h4] at h5
            simp at h5
            omega
          rw [h8, wordsL, if_pos h6, if_neg h9]
          rfl
      | false =>
        have h5 := h4 hb
        rw [if_neg (by decide)]
        generalize (Utf8.decode s pos).2 = k at *
        have hrun : s.data.toList.drop pos = (s.data.toList.drop pos).take k ++ s.data.toList.drop (pos + k) := by
          rw [← List.drop_drop, List.take_append_drop]
        have hnb : ∀ c ∈ (s.data.toList.drop pos).take k, ibk c = false := by
          intro c hc
          obtain ⟨j, hj⟩ := List.getElem?_of_mem hc
          have hjk : j < k := by
            have := (List.getElem?_eq_some_iff.1 hj).1
            rw [List.length_take] at this; omega
          rw [List.getElem?_take, if_pos hjk, List.getElem?_drop, get_list s (pos + j) (by omega)] at hj
          rw [← Option.some.inj hj]
          exact h5 j hjk
        cases st with
        | none =>
          simp only
          rw [ih (pos + k) (some pos) acc (by omega) h2 (fun a h => by injection h with h; omega)]
          congr 1
          rw [hrun, words_run _ _ _ hnb]
          congr 1
          show (s.data.toList.drop pos).take (pos + k - pos) = [] ++ _
          rw [show pos + k - pos = k by omega, List.nil_append]
        | some a =>
          have h7 := ha a rfl
          simp only
          rw [ih (pos + k) (some a) acc (by omega) h2 (fun b h => by injection h with h; omega)]
          congr 1
          rw [hrun, words_run _ _ _ hnb]
          congr 1
          show (s.data.toList.drop a).take (pos + k - a) = (s.data.toList.drop a).take (pos - a) ++ _
          rw [show pos + k - a = (pos - a) + k by omega, List.take_add, List.drop_drop, show a + (pos - a) = pos by omega]
    · rw [if_neg hlt]
      exact hend pos st acc (by omega) ha
theorem fieldsB_words (s : ByteArray) : datas (fieldsB s ⟨#[32]⟩) = wordsL [] s.data.toList := by
  unfold fieldsB
  by_cases h : s.toList = []
  · rw [if_pos h]
    rw [toList_data'] at h
    rw [h]; rfl
  · rw [if_neg h, if_pos (by rw [toList_data'])]
    have := fields_words s s.size 0 none [] (by omega) (Nat.zero_le _) (fun a h => by cases h)
    unfold datas goFieldsP spansOfP
    rw [List.map_map]
    exact this
theorem datas_inj {a b : List ByteArray} (h : datas a = datas b) : a = b := by
  unfold datas at h
  exact (List.map_inj_right (fun x y e => WideShapes.bytes_inj e)).1 h
theorem fields_same (s t : ByteArray) (b : List UInt8) (hb : ∀ c ∈ b, ibk c = true) (h : t.data.toList = b ++ padL b s.data.toList ++ b) : fieldsB t ⟨#[32]⟩ = fieldsB s ⟨#[32]⟩ :=
  datas_inj (by rw [fieldsB_words, fieldsB_words, h, words_all b hb])
end Go.Proofs.YtllbnbnpcogckaaGreatDoor
