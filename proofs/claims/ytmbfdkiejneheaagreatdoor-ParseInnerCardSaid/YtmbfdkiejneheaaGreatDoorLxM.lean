/-
 MATHEMATICS of layer 11: the tokens of a list of bytes, of no program.
-/
import Derived.Lib.Hide
import Derived.WalkKit
import Derived.WideShapes
import Derived.Lib.Strings
namespace Go.Proofs.YtmbfdkiejneheaaGreatDoor
theorem kH {p : Prop} (h : p) : Go.RowKit.Hid p := h

theorem ext0 (s : ByteArray) (k : Nat) : (s.extract 0 k).data.toList = s.data.toList.take k := by
 simp [ByteArray.data_extract]
theorem extk (s : ByteArray) (k : Nat) : (s.extract k s.size).data.toList = s.data.toList.drop k := by
 have e2 : (s.data.toList.drop k).take (s.size - k) = s.data.toList.drop k := List.take_of_length_le (by simp)
 simp [ByteArray.data_extract, e2]
theorem ba_of (s : ByteArray) (l : List UInt8) (h : s.data.toList = l) : s = ⟨l.toArray⟩ := WideShapes.bytes_inj (by simpa using h)
theorem ba_sz (s : ByteArray) : s.data.toList.length = s.size := by simp
theorem at_list (s : ByteArray) (j : Nat) (hj : j < s.size) : s.data.toList[j]? = some s[j] := by
 rw [List.getElem?_eq_getElem (by simpa using hj)]; rfl
theorem drop_at (s : ByteArray) (j : Nat) (hj : j < s.size) : s.data.toList.drop j = s[j] :: s.data.toList.drop (j + 1) := by
 rw [List.drop_eq_getElem_cons (by simpa using hj)]; rfl
theorem drop_end (s : ByteArray) (j : Nat) (hj : s.size ≤ j) : s.data.toList.drop j = [] := List.drop_eq_nil_of_le (by simpa using hj)
theorem u8_of {c d : UInt8} (h : (c.toNat : Int) = (d.toNat : Int)) : c = d := by
 apply UInt8.toNat_inj.1; omega

def isLt (c : UInt8) : Bool := (decide (97 ≤ c.toNat) && decide (c.toNat ≤ 122)) || (decide (65 ≤ c.toNat) && decide (c.toNat ≤ 90)) || decide (c.toNat = 95)
def isDg (c : UInt8) : Bool := decide (48 ≤ c.toNat) && decide (c.toNat ≤ 57)
def isNm (c : UInt8) : Bool := isLt c || isDg c
def cmtL (l : List UInt8) : Nat := (l.takeWhile (· != 10)).length
def blankL : List UInt8 → Nat
 | [] => 0
 | c :: t => if c = 32 ∨ c = 9 ∨ c = 13 then 1 + blankL t
   else if c = 92 then (match t with
    | d :: t' => if d = 10 then 2 + blankL t' else 0
    | [] => 0)
   else if c = 35 then 1 + cmtL t
   else 0
def digL (l : List UInt8) : Nat := (l.takeWhile isDg).length
def nmL (l : List UInt8) : Nat := (l.takeWhile isNm).length
def numT (w : Nat) : List UInt8 → Nat
 | [] => w
 | c :: t => if c = 46 then (if w + digL t = 0 then 0 else w + 1 + digL t) else w
def numL (l : List UInt8) : Nat := numT (digL l) (l.drop (digL l))
def wordsL : List (List UInt8) := [[66, 69, 71, 73, 78], [69, 78, 68], [102, 117, 110, 99, 116, 105, 111, 110], [105, 102], [101, 108, 115, 101], [119, 104, 105, 108, 101], [102, 111, 114], [105, 110], [98, 114, 101, 97, 107], [99, 111, 110, 116, 105, 110, 117, 101], [110, 101, 120, 116], [101, 120, 105, 116], [114, 101, 116, 117, 114, 110], [100, 101, 108, 101, 116, 101], [112, 114, 105, 110, 116], [112, 114, 105, 110, 116, 102]]
def builtL : List (List UInt8) := [[108, 101, 110, 103, 116, 104], [115, 117, 98, 115, 116, 114], [105, 110, 100, 101, 120], [115, 112, 108, 105, 116], [115, 117, 98], [103, 115, 117, 98], [109, 97, 116, 99, 104], [116, 111, 108, 111, 119, 101, 114], [116, 111, 117, 112, 112, 101, 114], [105, 110, 116], [115, 112, 114, 105, 110, 116, 102], [114, 97, 110, 100], [115, 114, 97, 110, 100]]
def bannL : List (List UInt8) := [[103, 101, 116, 108, 105, 110, 101], [115, 121, 115, 116, 101, 109], [99, 108, 111, 115, 101], [102, 102, 108, 117, 115, 104], [115, 121, 115, 116, 105, 109, 101], [115, 116, 114, 102, 116, 105, 109, 101]]
def signsL : List (List UInt8) := [[43, 61], [45, 61], [42, 61], [47, 61], [37, 61], [61, 61], [60, 61], [62, 61], [33, 61], [43, 43], [45, 45], [38, 38], [124, 124], [62, 62], [33, 126]]
def signsC : List UInt8 := [123, 125, 40, 41, 91, 93, 59, 44, 43, 45, 42, 47, 37, 33, 62, 60, 124, 63, 58, 126, 36, 61]
def kindL (name behind : List UInt8) : Nat :=
 if name ∈ wordsL then 7 else if name ∈ builtL then 9 else if name ∈ bannL then 10 else if behind.head? = some 40 then 6 else 5
def signL (l : List UInt8) : Nat :=
 if l.take 2 ∈ signsL then 2 else match l with
  | [] => 0
  | c :: _ => if c ∈ signsC then 1 else 0
def strEsc (d : UInt8) : List UInt8 := if d = 110 then [10] else if d = 116 then [9] else if d = 34 ∨ d = 92 ∨ d = 47 then [d] else []
def reEsc (d : UInt8) : List UInt8 := if d = 10 then [] else if d = 47 then [47] else [92, d]

/-- What stands between two like signs: the text and how many bytes up to behind the second sign; no second sign; a backslash that can't stand where it does. -/
inductive Qu where
 | done (t : List UInt8) (z : Nat)
 | opened
 | wrong (o : Nat)
def Qu.push (m : List UInt8) (k : Nat) : Qu → Qu
 | .done t z => .done (m ++ t) (k + z)
 | .opened => .opened
 | .wrong o => .wrong (k + o)
theorem Qu.push_push (m n : List UInt8) (j k : Nat) (q : Qu) : (q.push n k).push m j = q.push (m ++ n) (j + k) := by
 cases q <;> simp [Qu.push, Nat.add_assoc]
theorem Qu.push_nil (q : Qu) : q.push [] 0 = q := by cases q <;> simp [Qu.push]
def quL (esc : UInt8 → List UInt8) (q : UInt8) : List UInt8 → Qu
 | [] => .opened
 | c :: t =>
  if c = q then .done [] 1
  else if c = 92 then (match t with
   | [] => .wrong 0
   | d :: t' => if esc d = [] then .wrong 0 else (quL esc q t').push (esc d) 2)
  else if c = 10 then .opened
  else (quL esc q t).push [c] 1

/-- One token, or none: the text ends; no token begins here; a token: its kind, its text, how many bytes. -/
inductive St where
 | eof
 | bad (o : Nat)
 | tok (k : Nat) (t : List UInt8) (z : Nat)
def St.ofQ (k : Nat) : Qu → St
 | .done t z => .tok k t (z + 1)
 | .opened => .bad 0
 | .wrong o => .bad (o + 1)
def stepL (rx : Bool) : List UInt8 → St
 | [] => .eof
 | c :: t =>
  if c = 10 then .tok 1 [] 1
  else if c = 34 then St.ofQ 3 (quL strEsc 34 t)
  else if c = 47 ∧ rx = true then St.ofQ 4 (quL reEsc 47 t)
  else if isLt c = true then .tok (kindL ((c :: t).take (nmL (c :: t))) ((c :: t).drop (nmL (c :: t)))) ((c :: t).take (nmL (c :: t))) (nmL (c :: t))
  else if 0 < numL (c :: t) then .tok 2 ((c :: t).take (numL (c :: t))) (numL (c :: t))
  else if 0 < signL (c :: t) then .tok 8 ((c :: t).take (signL (c :: t))) (signL (c :: t))
  else .bad 0
structure Tok where
 k : Nat
 t : List UInt8
 a : Nat
/-- May a pattern begin behind this token? -/
def rxA (k : Nat) (t : List UInt8) : Bool :=
 if k = 2 ∨ k = 3 ∨ k = 4 ∨ k = 5 then false
 else if k = 9 then decide (t ≠ [108, 101, 110, 103, 116, 104])
 else if k = 8 then decide (t ≠ [41]) && decide (t ≠ [93]) && decide (t ≠ [43, 43]) && decide (t ≠ [45, 45])
 else true
def rxL (l : List Tok) : Bool := match l.getLast? with
 | none => true
 | some x => rxA x.k x.t
/-- The tokens of a text from place p on, or the place of an error. -/
def lexF : Nat → Bool → Nat → List UInt8 → Except Nat (List Tok)
 | 0, _, _, _ => .ok []
 | n + 1, rx, p, l => match stepL rx (l.drop (blankL l)) with
  | .eof => .ok []
  | .bad o => .error (p + blankL l + o)
  | .tok k t z => match lexF n (rxA k t) (p + blankL l + z) (l.drop (blankL l + z)) with
   | .ok r => .ok (⟨k, t, p + blankL l⟩ :: r)
   | .error e => .error e
def lexL (l : List UInt8) : Except Nat (List Tok) := lexF (l.length + 1) true 0 l

theorem cmt_le (l : List UInt8) : cmtL l ≤ l.length := (List.takeWhile_sublist _).length_le
theorem dig_le (l : List UInt8) : digL l ≤ l.length := (List.takeWhile_sublist _).length_le
theorem nm_le (l : List UInt8) : nmL l ≤ l.length := (List.takeWhile_sublist _).length_le
theorem blank_cons (c : UInt8) (t : List UInt8) : blankL (c :: t) = if c = 32 ∨ c = 9 ∨ c = 13 then 1 + blankL t else if c = 92 then (match t with
    | d :: t' => if d = 10 then 2 + blankL t' else 0
    | [] => 0) else if c = 35 then 1 + cmtL t else 0 := by
 conv => lhs; unfold blankL
theorem blank_le : ∀ l : List UInt8, blankL l ≤ l.length
 | [] => Nat.le_refl _
 | [c] => by
  rw [blank_cons]
  have h1 : blankL [] = 0 := rfl
  have h2 : cmtL [] = 0 := rfl
  rw [h1, h2]
  split
  ·
   simp
  ·
   split
   ·
    simp
   ·
    split <;> simp
 | c :: d :: t' => by
  rw [blank_cons]
  have h1 := blank_le (d :: t')
  have h2 := cmt_le (d :: t')
  have h3 := blank_le t'
  simp only [List.length_cons] at h1 h2 ⊢
  split
  ·
   omega
  ·
   split
   ·
    split <;> omega
   ·
    split <;> omega
theorem drop_head (l : List UInt8) (p : UInt8 → Bool) : l.drop (l.takeWhile p).length = l.dropWhile p ∧ l.take (l.takeWhile p).length = l.takeWhile p := by
 have e := List.takeWhile_append_dropWhile (p := p) (l := l)
 generalize l.takeWhile p = x at *
 generalize l.dropWhile p = y at *
 subst e
 exact ⟨List.drop_left, List.take_left⟩
theorem numT_cons (w : Nat) (c : UInt8) (t : List UInt8) : numT w (c :: t) = if c = 46 then (if w + digL t = 0 then 0 else w + 1 + digL t) else w := rfl
theorem num_le (l : List UInt8) : numL l ≤ l.length := by
 unfold numL
 have h1 := dig_le l
 have h2 : (l.drop (digL l)).length = l.length - digL l := List.length_drop
 cases h : l.drop (digL l) with
 | nil => unfold numT; exact h1
 | cons c t =>
  rw [h] at h2
  simp only [List.length_cons] at h2
  have h3 := dig_le t
  rw [numT_cons]
  split
  ·
   split <;> omega
  ·
   exact h1
theorem sign_le (l : List UInt8) : signL l ≤ l.length := by
 unfold signL
 split
 ·
  rename_i h
  have : (l.take 2).length = 2 := by
   have h2 : ∀ x ∈ signsL, x.length = 2 := by decide
   exact h2 _ h
  simp at this; omega
 ·
  split
  ·
   simp
  ·
   split <;> simp
theorem qu_le (esc : UInt8 → List UInt8) (q : UInt8) : ∀ l : List UInt8, (∀ t z, quL esc q l = .done t z → 0 < z ∧ z ≤ l.length) ∧ (∀ o, quL esc q l = .wrong o → o < l.length)
 | [] => by unfold quL; simp
 | c :: t => by
  unfold quL
  by_cases h1 : c = q
  ·
   rw [if_pos h1]
   constructor
   ·
    intro t z h; cases h; simp
   ·
    intro o h; cases h
  ·
   rw [if_neg h1]
   by_cases h2 : c = 92
   ·
    rw [if_pos h2]
    cases t with
    | nil => exact ⟨(fun t z h => by cases h), (fun o h => by cases h; simp)⟩
    | cons d t' =>
     simp only []
     by_cases h3 : esc d = []
     ·
      rw [if_pos h3]; exact ⟨(fun t z h => by cases h), (fun o h => by cases h; simp)⟩
     ·
      rw [if_neg h3]
      have ih := qu_le esc q t'
      cases hq : quL esc q t' with
      | done a b =>
       have := ih.1 _ _ hq
       exact ⟨(fun t z h => by cases h; simp; omega), (fun o h => by cases h)⟩
      | opened => exact ⟨(fun t z h => by cases h), (fun o h => by cases h)⟩
      | wrong o =>
       have := ih.2 _ hq
       exact ⟨(fun t z h => by cases h), (fun o h => by cases h; simp; omega)⟩
   ·
    rw [if_neg h2]
    by_cases h3 : c = 10
    ·
     rw [if_pos h3]; exact ⟨(fun t z h => by cases h), (fun o h => by cases h)⟩
    ·
     rw [if_neg h3]
     have ih := qu_le esc q t
     cases hq : quL esc q t with
     | done a b =>
      have := ih.1 _ _ hq
      exact ⟨(fun t z h => by cases h; simp; omega), (fun o h => by cases h)⟩
     | opened => exact ⟨(fun t z h => by cases h), (fun o h => by cases h)⟩
     | wrong o =>
      have := ih.2 _ hq
      exact ⟨(fun t z h => by cases h), (fun o h => by cases h; simp; omega)⟩
theorem step_cons (rx : Bool) (c : UInt8) (t : List UInt8) : stepL rx (c :: t) = if c = 10 then .tok 1 [] 1
  else if c = 34 then St.ofQ 3 (quL strEsc 34 t)
  else if c = 47 ∧ rx = true then St.ofQ 4 (quL reEsc 47 t)
  else if isLt c = true then .tok (kindL ((c :: t).take (nmL (c :: t))) ((c :: t).drop (nmL (c :: t)))) ((c :: t).take (nmL (c :: t))) (nmL (c :: t))
  else if 0 < numL (c :: t) then .tok 2 ((c :: t).take (numL (c :: t))) (numL (c :: t))
  else if 0 < signL (c :: t) then .tok 8 ((c :: t).take (signL (c :: t))) (signL (c :: t))
  else .bad 0 := rfl
/-- A token is at least one byte and lies in the text; so does an error's place. -/
theorem step_le (rx : Bool) (l : List UInt8) : (∀ k t z, stepL rx l = .tok k t z → 0 < z ∧ z ≤ l.length) ∧ (∀ o, stepL rx l = .bad o → o < l.length) := by
 cases l with
 | nil => exact ⟨(fun k t z h => by cases h), (fun o h => by cases h)⟩
 | cons c t =>
  rw [step_cons]
  by_cases h1 : c = 10
  ·
   rw [if_pos h1]; exact ⟨(fun k t z h => by cases h; simp), (fun o h => by cases h)⟩
  rw [if_neg h1]
  by_cases h2 : c = 34
  ·
   rw [if_pos h2]
   have ih := qu_le strEsc 34 t
   cases hq : quL strEsc 34 t with
   | done a b => have := ih.1 _ _ hq; exact ⟨(fun k t z h => by cases h; simp; omega), (fun o h => by cases h)⟩
   | opened => exact ⟨(fun k t z h => by cases h), (fun o h => by cases h; simp)⟩
   | wrong o => have := ih.2 _ hq; exact ⟨(fun k t z h => by cases h), (fun o h => by cases h; simp; omega)⟩
  rw [if_neg h2]
  by_cases h3 : c = 47 ∧ rx = true
  ·
   rw [if_pos h3]
   have ih := qu_le reEsc 47 t
   cases hq : quL reEsc 47 t with
   | done a b => have := ih.1 _ _ hq; exact ⟨(fun k t z h => by cases h; simp; omega), (fun o h => by cases h)⟩
   | opened => exact ⟨(fun k t z h => by cases h), (fun o h => by cases h; simp)⟩
   | wrong o => have := ih.2 _ hq; exact ⟨(fun k t z h => by cases h), (fun o h => by cases h; simp; omega)⟩
  rw [if_neg h3]
  by_cases h4 : isLt c = true
  ·
   rw [if_pos h4]
   have h5 : 0 < nmL (c :: t) := by unfold nmL; rw [List.takeWhile_cons, if_pos (by unfold isNm; rw [h4]; rfl)]; simp
   exact ⟨(fun k t z h => by cases h; exact ⟨h5, nm_le _⟩), (fun o h => by cases h)⟩
  rw [if_neg h4]
  by_cases h5 : 0 < numL (c :: t)
  ·
   rw [if_pos h5]; exact ⟨(fun k t z h => by cases h; exact ⟨h5, num_le _⟩), (fun o h => by cases h)⟩
  rw [if_neg h5]
  by_cases h6 : 0 < signL (c :: t)
  ·
   rw [if_pos h6]; exact ⟨(fun k t z h => by cases h; exact ⟨h6, sign_le _⟩), (fun o h => by cases h)⟩
  rw [if_neg h6]
  exact ⟨(fun k t z h => by cases h), (fun o h => by cases h; simp)⟩
/-- Enough is enough. -/
theorem lexF_more : ∀ (n m : Nat) (rx : Bool) (p : Nat) (l : List UInt8), l.length < n → l.length < m → lexF n rx p l = lexF m rx p l
 | 0, _, _, _, _, h, _ => by omega
 | _ + 1, 0, _, _, _, _, h => by omega
 | n + 1, m + 1, rx, p, l, hn, hm => by
  unfold lexF
  cases h : stepL rx (l.drop (blankL l)) with
  | eof => rfl
  | bad o => rfl
  | tok k t z =>
   simp only []
   have h1 := (step_le rx _).1 _ _ _ h
   have h2 : (l.drop (blankL l)).length = l.length - blankL l := List.length_drop
   have h3 := blank_le l
   rw [lexF_more n m _ _ _ (by simp; omega) (by simp; omega)]
/-- The tokens from a place on: the first one, then those behind it. -/
theorem lexF_tok {n : Nat} {rx : Bool} {p : Nat} {l : List UInt8} {k : Nat} {t : List UInt8} {z : Nat} (h : stepL rx (l.drop (blankL l)) = .tok k t z) (hn : l.length < n) :
  lexF n rx p l = (lexF n (rxA k t) (p + blankL l + z) (l.drop (blankL l + z))).map (⟨k, t, p + blankL l⟩ :: ·) := by
 obtain ⟨n, rfl⟩ : ∃ m, n = m + 1 := ⟨n - 1, by omega⟩
 have h1 := (step_le rx _).1 _ _ _ h
 have h2 : (l.drop (blankL l)).length = l.length - blankL l := List.length_drop
 have h3 := blank_le l
 rw [lexF_more (n + 1) n (rxA k t) _ _ (by simp; omega) (by simp; omega)]
 conv => lhs; unfold lexF
 rw [h]
 simp only []
 cases lexF n (rxA k t) (p + blankL l + z) (l.drop (blankL l + z)) <;> rfl
theorem lexF_eof {n : Nat} {rx : Bool} {p : Nat} {l : List UInt8} (h : stepL rx (l.drop (blankL l)) = .eof) : lexF n rx p l = .ok [] := by
 cases n with
 | zero => rfl
 | succ n => unfold lexF; rw [h]
theorem lexF_bad {n : Nat} {rx : Bool} {p : Nat} {l : List UInt8} {o : Nat} (h : stepL rx (l.drop (blankL l)) = .bad o) (hn : 0 < n) : lexF n rx p l = .error (p + blankL l + o) := by
 obtain ⟨n, rfl⟩ : ∃ m, n = m + 1 := ⟨n - 1, by omega⟩
 unfold lexF; rw [h]
end Go.Proofs.YtmbfdkiejneheaaGreatDoor
